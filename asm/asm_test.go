package asm

import (
	"fmt"
	"math"
	"slices"
	"strings"
	"testing"

	"cotterel/api"
	"cotterel/inst"
	"cotterel/text"
)

const (
	sixteen   = "abcdefghijklmno9"
	seventeen = "abcdefghijklmnop9"
	hugest    = "9223372036854775807"  // 2^63 - 1
	huge      = "9223372036854775808"  // the first number that does not fit into an int64
	hugeBelow = "-9223372036854775809" // likewise
)

// some is a program that has these names.
const some = ".equ zero 0\n.equ one 1\n.equ big 0x80000000\n.equ all 0xffffffff\n.equ hi 0x12345678\n.equ lo 0x2000\n.equ r1 7\n.equ x 100\n"

const someNames = " zero=0 one=1 big=2147483648 all=4294967295 hi=305419896 lo=8192 r1=7 x=100"

func TestExamples(t *testing.T) { // AQ1 to AQ3: the chapter's examples
	right(t, "start: addi r1, r0, 5\n jal r0, start ; again\n", "0 0:05004064ffff03c4 start=0")
	wrong(t, api.ErrTwice, 3, ".word 7\n.org 2\n.byte 1\n")
}

func TestLinesForm(t *testing.T) { // AQ1: the errors of the form of the text, ahead of all others, with line 0
	wrong(t, api.ErrForm, 0, "nop", "a:", ";", " ", "x: x:\nnop", "9:\n.what\nfoo", "nop\n\nnop\n ", "nop\r\n", "\x00\n", "nop ; \x7f\n", "nop ; \x80\n", "\xff\n", "nop\n; é\n", "nop\v\n", "nop\f\n", "9:\nfoo\n\x01\n", "nop\x1f\n")
}

func TestLinesLong(t *testing.T) { // AQ1: MaxText and MaxLines, and one more
	full := strings.Repeat("nop\n", api.MaxLines)
	if got := check(t, full); got.e != api.OK || len(got.im.Segs) != 1 || len(got.im.Segs[0].Data) != api.MaxMem {
		t.Errorf("%d lines: %.100s", api.MaxLines, got)
	}
	right(t, strings.Repeat("\n", api.MaxLines), "0")
	right(t, strings.Repeat(";", api.MaxText-1)+"\n", "0")
	right(t, "a: "+strings.Repeat(" ", api.MaxText-8)+"nop\n", "0 0:000000fc a=0")
	wrong(t, api.ErrLong, 0,
		strings.Repeat("\n", api.MaxLines+1), full+"\n", full+"foo\n", "9:\n"+full, strings.Repeat("\x00\n", api.MaxLines+1),
		strings.Repeat(";", api.MaxText)+"\n", strings.Repeat("x", api.MaxText+1), strings.Repeat("\xff", api.MaxText+1), "a: a:\n"+strings.Repeat(" ", api.MaxText)+"\n",
	)
	wrong(t, api.ErrForm, 0, strings.Repeat("\n", api.MaxLines)+"x", strings.Repeat("x", api.MaxText), strings.Repeat("\n", api.MaxLines)+";")
	wrong(t, api.ErrOp, api.MaxLines, strings.Repeat("\n", api.MaxLines-1)+"foo\n")
	wrong(t, api.ErrForm, api.MaxLines, strings.Repeat("foo\n", api.MaxLines-1)+".what\n")
}

func TestNothing(t *testing.T) { // AQ1, AQ3: programs that place nothing
	for _, src := range []string{"", "\n", "\n\n\n", " \n", "\t\n", ",\n", " ,\t, \n,\n", ";\n", ";;\n", "; a: nop\n", " ; .what\n;9:\n", ",;,\n", "\n; nop\n\n", ".org 0\n", ".org 16\n", ".org 16384\n", ".space 0\n", ".org 7\n.space 0\n"} {
		right(t, src, "0")
	}
	right(t, "a:\n", "0 a=0")
	right(t, ".org 12\nend:\n", "0 end=12")
	right(t, ".equ k 9\n", "0 k=9")
	right(t, ".org 40\n.space 0\n.equ start 24\n", "24 start=24")
}

func TestRemarks(t *testing.T) { // AQ1: the words of a line are those before its first ;
	right(t, "nop;nop\n", "0 0:000000fc")
	right(t, "nop ; ; halt\n;halt\nhalt;:\n", "0 0:000000fc000000f4")
	right(t, "a:;b:\nb: ;\n.byte 1;2\n.byte a ; , c\n", "0 0:0100 a=0 b=0")
	right(t, "jal r0, 1;, 2\n", "0 0:010000c4")
	wrong(t, api.ErrForm, 1, "jal ;r0, 1\n", "out;r1\n", ".org ;4\n", ".equ a;1\n", ".word;1\n", ".byte ; 1\n")
	wrong(t, api.ErrOp, 1, "a;: nop\n", "ha;lt\n")
}

func TestSeparators(t *testing.T) { // AQ1, AQ2: blanks, tabs and commas between words, in any number
	for _, src := range []string{
		"a: addi r1, r2, 3\n", "a: addi r1 r2 3\n", "a:\taddi\tr1\tr2\t3\n", "a:,addi,r1,r2,3\n", "  a:  addi  r1  r2  3  \n", ",,a:,,addi,,,r1, ,r2,\t,3,\n", "\ta: \t addi r1 ,r2 ,3\t;\n", "a:\taddi r1,r2,3;4\n", ", a: addi, r1, r2, 3,\n",
	} {
		right(t, src, "0 0:03004864 a=0")
	}
	right(t, ",.byte,1,,2, 3\t4 ,,5\n", "0 0:0102030405")
	right(t, ".equ,k,,4\n.org\t8,\n,.space ,2,\n", "8 8:0000 k=4")
	right(t, ",lui,r1,hi,x,\n.equ\tx,0x6000\n", "0 0:02004084 x=24576")
}

func TestLabels(t *testing.T) { // AQ1: labels are defined at the address at which their line begins
	right(t, "a: b: c: nop\nd:\ne: f: halt\n", "0 0:000000fc000000f4 a=0 b=0 c=0 d=4 e=4 f=4")
	right(t, "a: .org 32\nb: .space 3\nc: .byte 1\nd: .word 2 3\ne: .equ f 5\ng:\n", "32 32:000000010200000003000000 a=0 b=32 c=35 d=36 e=44 f=5 g=44")
	right(t, ".org 16384\na: .space 0\nb:\n", "0 a=16384 b=16384")
	right(t, ".byte 1\na:\n.byte 2\nb: .byte 3\n", "0 0:010203 a=1 b=2")
	right(t, "_: A: z: Z: a0: _9: __: aA9_: nop: hi: lo: r0: start: "+sixteen+":\n", "0 _=0 A=0 z=0 Z=0 a0=0 _9=0 __=0 aA9_=0 nop=0 hi=0 lo=0 r0=0 start=0 "+sixteen+"=0")
	right(t, "a: A: aa: a_: a1:\n", "0 a=0 A=0 aa=0 a_=0 a1=0")
	right(t, strings.Repeat("\n", 9)+"a:\n", "0 a=0")
}

func TestWrongLabels(t *testing.T) { // AQ1: a label that is not a name
	for _, s := range []string{
		":", "::", "a::", ":a:", "a:b:", "9:", "0a:", "0:", "-1:", seventeen + ":", strings.Repeat("a", 300) + ":", "a.b:", ".a:", ".:", ".org:", "a-b:", "a$:", "$:", "@:", "[:", "`:", "{:", "/:", "a/:", "a@:", "a[:", "a`:", "a{:", "a\"b:", "'a':", "a(:", "a):", "a+1:", "a=:", "a#:", "!:", "~:", "a~:",
	} {
		wrong(t, api.ErrForm, 1, s+"\n", s+" nop\n", " "+s+" foo\n", "ok: "+s+"\n", s+" ok: ok:\n", s+" .what\n", s+";\n")
		wrong(t, api.ErrForm, 3, "foo\na: .word x\nb: "+s+" nop\na:\n")
		wrong(t, api.ErrTwice, 1, "ok: ok: "+s+"\n")
		wrong(t, api.ErrTwice, 2, "ok:\nok: "+s+"\n")
	}
}

func TestTwiceDefined(t *testing.T) { // AQ1: a name that the program already has
	wrong(t, api.ErrTwice, 1, "a: a:\n", "a: b: c: a: nop\n", "a: a: nop\n", "a: .equ a 1\n", "a: a: 9:\n", "a: a: .what\n", "a: .equ a x\n", "a: .equ a "+huge+"\n")
	wrong(t, api.ErrTwice, 2, "a:\na:\n", "a: nop\na: nop\n", ".equ a 1\na:\n", "a:\n.equ a 1\n", ".equ a 1\n.equ a 1\n", ".equ a 0\na: .what\n", sixteen+":\n"+sixteen+":\n", "start:\nstart:\n", "a:\nb: a: 9:\n")
	wrong(t, api.ErrTwice, 4, "a:\nnop\n.org 64\nb: a:\na:\n", "foo\n.word x\na:\na:\n")
	wrong(t, api.ErrForm, 1, "9: a: a:\n", "a: .equ a\n", "a: .equ a 1 2\n")
}

func TestColonBehind(t *testing.T) { // AQ1, AQ2: a colon behind a directive or an instruction makes no label
	wrong(t, api.ErrForm, 1, "nop a:\n", "nop :\n", ".equ a: 1\n", ".org 4:\n", ".org a:\n", ".space 1:\n", ".word a:\n", ".byte 1:\n", ".byte : 1\n", "jal r0, a:\n", "addi r1, r0, 5:\n", "jal r0, hi a:\n", ".equ a 1:\n", "out r1:\n")
	wrong(t, api.ErrOp, 1, "foo a:\n", "a:nop\n", "a:b\n", ":a\n", "a:nop b:\n")
	wrong(t, api.ErrTwice, 2, "a: nop\na: nop a:\n")
	wrong(t, api.ErrForm, 2, "a: nop\nb: nop a:\n")
}

func TestDirectiveWords(t *testing.T) { // AQ1: an unknown word that begins with a period; too few or too many words
	for _, s := range []string{
		".", "..", ".what", ".ORG 4", ".Org 4", ".SPACE 4", ".WORD 4", ".BYTE 4", ".EQU k 4", ".or 4", ".orgs 4", ".org. 4", "..org 4", ".words 1", ".bytes 1", ".wor 1", ".nop", ".a", ".9", ".half 1", ".org=4", ".byte:1", ".org;4",
		".org", ".org 1 2", ".org 4 4 4", ".org,", ".org x x", ".org -1 -1", ".space", ".space 1 2", ".space 0 0", ".space 1, 2, 3", ".word", ".word,,", ".byte", ".byte ;1", ".equ", ".equ k", ".equ 1", ".equ k 1 2", ".equ k 1 k", ".equ k, 1, 2, 3", ".equ , k ,",
	} {
		wrong(t, api.ErrForm, 1, s+"\n", "a: "+s+"\n", s+"\n.what\n")
		wrong(t, api.ErrForm, 3, "foo\n.byte 1000 x -\n"+s+"\n")
		wrong(t, api.ErrTwice, 1, "a: a: "+s+"\n")
	}
}

func TestOrg(t *testing.T) { // AQ1: .org sets the next address
	right(t, ".org 8\nnop\n", "8 8:000000fc")
	right(t, ".org 0x10\n.byte 1\n", "16 16:01")
	right(t, ".org 16383\n.byte 1\n", "16383 16383:01")
	right(t, ".org 16384\na:\n.org 0\nb: nop\n", "0 0:000000fc a=16384 b=0")
	right(t, ".org 0x4000\na:\n.org 0x00000000\nb:\n.org 3\nc:\n", "0 a=16384 b=0 c=3")
	wrong(t, api.ErrForm, 1, ".org x\n", ".org 007\n", ".org -0\n", ".org +1\n", ".org 0x\n", ".org 0xG\n", ".org 0xAB\n", ".org 0X1\n", ".org 1x\n", ".org 0x123456789\n", ".org --1\n", ".org 1.5\n", ".org \"4\"\n", "x: .org x\n", ".org hi\n", ".org 16385x\n")
	wrong(t, api.ErrRange, 1, ".org -1\n", ".org 16385\n", ".org 0x4001\n", ".org 0xffffffff\n", ".org "+huge+"\n", ".org "+hugeBelow+"\n", ".org "+hugest+"\n", ".org -16384\n", ".org 4294967296\n", ".org "+strings.Repeat("9", 100)+"\n")
	wrong(t, api.ErrForm, 3, ".equ k 4\nfoo\n.org k\n")
}

func TestSpace(t *testing.T) { // AQ1: .space places zeros
	right(t, ".space 3\n.byte 7\n", "0 0:00000007")
	right(t, ".byte 7\n.space 0x5\n.byte 8\n", "0 0:07000000000008")
	right(t, ".org 16380\n.space 4\na:\n", "16380 16380:00000000 a=16384")
	right(t, ".org 16384\n.space 0\n", "0")
	right(t, ".word 1\n.org 2\n.space 0\na:\n", "0 0:01000000 a=2")
	right(t, ".space 16384\n", "0 0:"+strings.Repeat("00", 16384))
	wrong(t, api.ErrForm, 1, ".space x\n", ".space 00\n", ".space -0\n", ".space 1k\n", "x: .space x\n", ".space 0x1g\n", ".space -\n")
	wrong(t, api.ErrRange, 1, ".space -1\n", ".space 16385\n", ".space "+huge+"\n", ".space "+hugeBelow+"\n", ".space 0xffffffff\n", ".space "+hugest+"\n")
	wrong(t, api.ErrRange, 2, ".byte 1\n.space 16384\n", ".org 16384\n.space 1\n", ".org 1\n.space 16384\n", ".space 16384\n.space 1\n", ".org 16383\n.space 2\n", ".byte 1\n.space "+hugest+"\n", ".org 16384\n.space "+hugest+"\n")
	wrong(t, api.ErrTwice, 2, ".byte 1\na: a: .space 16385\n")
	wrong(t, api.ErrTwice, 3, ".space 16384\n.org 16383\n.space 1\n", ".byte 1\n.org 0\n.space 16384\n")
}

func TestEqu(t *testing.T) { // AQ1: .equ defines the value of a name
	right(t, ".equ a 0\n.equ b -1\n.equ c 4294967295\n.equ d -2147483648\n.equ e 0xffffffff\n.equ f 0x0\n.equ g 2147483648\n.equ h -2147483647\n", "0 a=0 b=4294967295 c=4294967295 d=2147483648 e=4294967295 f=0 g=2147483648 h=2147483649")
	right(t, ".byte 1\na: .equ b 9\n.byte b\n", "0 0:0109 a=1 b=9")
	wrong(t, api.ErrForm, 1, ".equ 9 1\n", ".equ "+seventeen+" 1\n", ".equ a.b 1\n", ".equ .a 1\n", ".equ a: 1\n", ".equ = 1\n", ".equ a =\n", ".equ a x\n", ".equ a a\n", ".equ a 01\n", ".equ a 0x\n", ".equ a -0\n", ".equ a 0x100000000\n", "x: .equ a x\n", ".equ 9 "+huge+"\n", ".equ a 1a\n", ".equ 1 a\n")
	wrong(t, api.ErrRange, 1, ".equ a 4294967296\n", ".equ a -2147483649\n", ".equ a "+huge+"\n", ".equ a "+hugeBelow+"\n", ".equ a "+hugest+"\n", ".equ a -4294967296\n", ".equ a -9223372036854775808\n")
	wrong(t, api.ErrTwice, 2, "a:\n.equ a x\n", "a:\n.equ a "+huge+"\n", ".equ a 5\n.equ a 4294967296\n", ".equ a 5\n.equ a -0\n")
	wrong(t, api.ErrRange, 3, "foo\n.byte x\n.equ a 4294967296\n")
	wrong(t, api.ErrForm, 2, "a:\n.equ 9 a\n")
	right(t, ".equ "+sixteen+" 3\n", "0 "+sixteen+"=3")
}

func TestAligned(t *testing.T) { // AQ1: an instruction and a .word at addresses that are no multiple of 4
	for at := range 8 {
		for _, s := range []string{"nop", ".word 1", ".word 1 2", "foo", "foo x", ".word x"} {
			src := fmt.Sprintf(".org %d\na: %s\n", at, s)
			if at%4 != 0 {
				wrong(t, api.ErrRange, 2, src, fmt.Sprintf(".space %d\n%s\n", at, s))
				wrong(t, api.ErrRange, 3, fmt.Sprintf(".space 16\n.org %d\n%s\n", at, s))
			} else if got := check(t, src); got.e == api.ErrRange {
				t.Errorf("%q: %s", src, got)
			}
		}
		right(t, fmt.Sprintf(".org %d\n.byte 1\n", at), fmt.Sprintf("%d %d:01", at, at))
		right(t, fmt.Sprintf(".org %d\n.space 2\n", at), fmt.Sprintf("%d %d:0000", at, at))
	}
}

func TestEndOfMemory(t *testing.T) { // AQ1: what extends beyond MaxMem
	right(t, ".org 16380\nnop\na:\n", "16380 16380:000000fc a=16384")
	right(t, ".org 16380\n.word 1\n", "16380 16380:01000000")
	right(t, ".org 16376\n.word 1 2\n", "16376 16376:0100000002000000")
	right(t, ".org 16382\n.byte 1 2\n", "16382 16382:0102")
	wrong(t, api.ErrRange, 2,
		".org 16384\nnop\n", ".org 16384\n.word 1\n", ".org 16384\n.byte 1\n", ".org 16380\n.word 1 2\n", ".org 16383\n.byte 1 2\n", ".org 16381\nnop\n", ".org 16382\n.word 1\n", ".org 16384\nfoo\n", ".org 16384\n.word x\n", ".org 16380\n.word x y\n",
		".org 4\n.word"+strings.Repeat(" 0", 4096)+"\n", ".org 1\n.byte"+strings.Repeat(" 0", 16384)+"\n", ".org 8\n.word"+strings.Repeat(" 0", 16384)+"\n", ".org 16384\n.byte"+strings.Repeat(" 0", 30000)+"\n", ".space 1\n.byte"+strings.Repeat(" 0", 16384)+"\n",
		"\n.word"+strings.Repeat(" 0", 4097)+"\n", "\n.word"+strings.Repeat(" 0", 16385)+"\n", "\n.word"+strings.Repeat(" 0", 32000)+"\n", "\n.byte"+strings.Repeat(" 0", 16385)+"\n", "\n.byte"+strings.Repeat(" -", 32000)+"\n",
	)
	wrong(t, api.ErrRange, 3, ".space 16376\nnop\n.word 0 0\n", ".org 16380\nnop\nnop\n", ".org 16380\n.word 1\n.byte 1\n", ".org 16383\n.byte 1\n.byte 1\n", ".org 16384\n.space 0\n.space 1\n")
	right(t, ".word"+strings.Repeat(" 0", 4096)+"\n", "0 0:"+strings.Repeat("00", 16384))
	right(t, ".byte"+strings.Repeat(" 0", 16384)+"\n", "0 0:"+strings.Repeat("00", 16384))
	// What lies beyond MaxMem counts ahead of what is placed there already.
	wrong(t, api.ErrRange, 3, ".space 16384\n.org 16380\n.word 1 2\n", ".org 16383\n.byte 1\n.byte 1 2\n")
	wrong(t, api.ErrRange, 4, ".org 16383\n.byte 1\n.org 16383\n.byte 1 2\n")
}

func TestTwicePlaced(t *testing.T) { // AQ1: each kind on each kind, at its first and at its last byte
	kinds := []struct {
		s     string
		align int
	}{{".space 4", 1}, {".word 1", 4}, {".byte 1 2 3 4", 1}, {"nop", 4}}
	for _, a := range kinds {
		for _, b := range kinds {
			for at := range 16 {
				src := fmt.Sprintf(".org 4\n%s\n.org %d\n%s\n", a.s, at, b.s)
				switch {
				case at%b.align != 0:
					wrong(t, api.ErrRange, 4, src)
				case at > 0 && at < 8:
					wrong(t, api.ErrTwice, 4, src)
				default:
					if got := check(t, src); got.e != api.OK {
						t.Errorf("%q: %s", src, got)
					}
				}
			}
		}
	}
	wrong(t, api.ErrTwice, 3, "nop\n.org 0\nnop\n", ".byte 1\n.org 0\n.byte 1\n", ".space 1\n.org 0\n.space 1\n", "foo\n.org 0\n.byte x\n", "nop\n.org 3\n.byte 1 2\n", ".word 1\n.org 0\nfoo x\n")
	wrong(t, api.ErrTwice, 4, ".org 8\nnop\n.org 0\n.word 1 2 3\n", ".org 8\n.byte 1\n.org 0\n.space 9\n", ".org 7\n.byte 1\n.org 4\nnop\n", ".org 3\n.byte 1\n.org 0\n.byte 1 2 3 4\n")
	wrong(t, api.ErrTwice, 5, ".org 8\nnop\n.org 4\nnop\nnop\n")
	right(t, ".org 8\n.byte 1\n.org 4\n.byte 2 3 4 5\n.org 9\n.byte 6\n", "4 4:020304050106")
}

func TestPasses(t *testing.T) { // AQ1, AQ2: an error of the first pass in a late line goes ahead of one of the second pass in an early one
	early := []string{".word x", ".word -", ".word 4294967296", ".byte 256 0 0 0", "foo", "jal r0, x", "jal r0, hi 9", "addi r1, r0, " + huge, "nop 1", "jal r0, k"}
	late := []struct {
		s string
		e api.Errno
	}{{"9:", api.ErrForm}, {"k:", api.ErrTwice}, {".what", api.ErrForm}, {".byte", api.ErrForm}, {".org -1", api.ErrRange}, {".org x", api.ErrForm}, {".space 16384", api.ErrRange}, {".equ k 1", api.ErrTwice}, {".equ m x", api.ErrForm}, {".equ m 4294967296", api.ErrRange}, {"j: k: nop", api.ErrTwice}}
	for _, a := range early {
		for _, b := range late {
			wrong(t, b.e, 4, ".equ k 2\n"+a+"\n\n"+b.s+"\n", ".equ k 2\n"+a+"\n"+a+"\n"+b.s+"\n"+b.s+"\n")
			wrong(t, b.e, 3, ".equ k 2\n"+a+"\n"+b.s+"\n"+a+"\n")
		}
		if got := check(t, ".equ k 2\n"+a+"\nfoo\n.word -\n"); got.line != 2 {
			t.Errorf("%q: %s", a, got)
		}
	}
	wrong(t, api.ErrOp, 2, "nop\nfoo\nnop 1\n")
	wrong(t, api.ErrForm, 3, "nop\nnop\nnop 1\nfoo\n")
	wrong(t, api.ErrLabel, 1, ".word x\nfoo\n")
	wrong(t, api.ErrTwice, 4, "foo\nnop\n.org 0\nnop\n")
	wrong(t, api.ErrRange, 3, "foo\n.byte 1\nfoo\n")
}

func TestWord(t *testing.T) { // AQ2: the values of .word
	right(t, ".word 0x12345678 -1 0 1 4294967295 -2147483648 0xffffffff 0x0 2147483648 -2147483647\n", "0 0:78563412ffffffff0000000001000000ffffffff00000080ffffffff000000000000008001000080")
	right(t, "a: .word k, b, a, start\n.equ k -2\nb: .word b k\nstart:\n", "24 0:feffffff100000000000000018000000"+"10000000feffffff a=0 k=4294967294 b=16 start=24")
	right(t, some+".word all big hi lo r1 x\n", "0 0:ffffffff0000008078563412002000000700000064000000"+someNames)
	wrong(t, api.ErrForm, 1, ".word -\n", ".word 007\n", ".word -0\n", ".word +1\n", ".word 0x\n", ".word 0x123456789\n", ".word 0xFF\n", ".word a.b\n", ".word "+seventeen+"\n", ".word 1a\n", ".word 'a'\n", ".word a:\n", ".word .byte\n", ".word 1 2 -\n", ".word $1\n", ".word 1+1\n", ".word -x\n", ".word (1)\n")
	wrong(t, api.ErrRange, 1, ".word 4294967296\n", ".word -2147483649\n", ".word "+huge+"\n", ".word "+hugeBelow+"\n", ".word "+hugest+"\n", ".word 1 2 4294967296\n", ".word -9223372036854775808\n", ".word "+strings.Repeat("9", 60)+"\n", ".word -"+strings.Repeat("9", 60)+"\n")
	wrong(t, api.ErrLabel, 1, ".word x\n", ".word _\n", ".word hi\n", ".word r1\n", ".word nop\n", ".word a b\na:\n", ".word A\na:\n", ".word "+sixteen+"\n", ".word start\n", ".word hi x\nx:\n")
	wrong(t, api.ErrLabel, 3, "a:\n.word a\n.word 1 a 2 b -\n")
}

func TestByte(t *testing.T) { // AQ2: the values of .byte
	right(t, ".byte 0 1 255 -1 -128 127 128 0xff 0x80 0x000000ff -127\n", "0 0:0001ffff807f80ff80ff81")
	right(t, ".byte a b c d\n.equ a 255\n.equ b 0\nc: .equ d 0x7f\n", "0 0:ff00047f a=255 b=0 c=4 d=127")
	right(t, ".org 255\na: .byte a\n", "255 255:ff a=255")
	wrong(t, api.ErrForm, 1, ".byte -\n", ".byte 00\n", ".byte -0\n", ".byte 0x\n", ".byte 1 - x 256\n", ".byte "+seventeen+"\n", ".byte 256x\n", ".byte a:\n")
	wrong(t, api.ErrRange, 1, ".byte 256\n", ".byte -129\n", ".byte 0x100\n", ".byte 4294967296\n", ".byte 4294967295\n", ".byte -2147483649\n", ".byte -2147483648\n", ".byte "+huge+"\n", ".byte "+hugeBelow+"\n", ".byte 1 256 - x\n", ".byte a\n.equ a 256\n", ".byte a\n.equ a -1\n", ".byte a\n.equ a -128\n", ".byte a\n.equ a 0x80000000\n", ".byte 65536\n", ".byte 0xffffff80\n")
	wrong(t, api.ErrRange, 2, ".org 256\na: .byte a\n", ".equ a 4294967295\n.byte a\n")
	wrong(t, api.ErrLabel, 1, ".byte x\n", ".byte 1 2 x - 256\n", ".byte hi\n", ".byte r0\n")
	// The first value from the left that is wrong counts, whatever is wrong with it.
	bad := map[string]api.Errno{"-": api.ErrForm, "y": api.ErrLabel, "256": api.ErrRange, "z": api.ErrRange, huge: api.ErrRange}
	for a, e := range bad {
		for b := range bad {
			wrong(t, e, 2, ".equ z 256\n.byte 1 "+a+" "+b+"\n", ".equ z 256\n.byte "+a+","+b+",1\n.byte 1000 -\n")
		}
	}
}

func TestNoOperation(t *testing.T) { // AQ2: a name of no operation
	for _, s := range []string{"foo", "x", "NOP", "Nop", "no", "nopp", "ADDI", "add.", "addi:x", "9", "-1", "0", "hi", "lo", "r1", "_", "org", "word", "a:b", "=", "-", "nop.", seventeen, strings.Repeat("x", 1000), "\"nop\"", "none", "fetch"} {
		wrong(t, api.ErrOp, 1, s+"\n", s+" r1\n", s+" r1, r0, 5\n", s+" x\n", s+" hi x\n", s+" hi 9\n", s+" "+huge+"\n", s+" r1, r0, -\n", "a: "+s+" a b c d\n")
		wrong(t, api.ErrOp, 3, "nop\na:\nb: "+s+"\nfoo\n")
	}
	for _, name := range names() {
		wrong(t, api.ErrOp, 1, strings.ToUpper(name)+" r1, r2, 3\n", name+name+"\n", name+"_\n", name+"0 x\n")
	}
}

// stem is an operation with registers in the places of its registers, and a comma where an imm follows.
func stem(name string) string {
	s := name
	for k := range len(table[name].operands) {
		if table[name].operands[k] != 'i' {
			s += fmt.Sprintf(" r%d,", 3+k)
		}
	}
	return s
}

// withImm is the names of the operations whose form has an imm.
func withImm() []string {
	return slices.DeleteFunc(names(), func(name string) bool { return !strings.HasSuffix(table[name].operands, "i") })
}

// immOf is the imm of the first word of an image.
func immOf(t *testing.T, a answer) int {
	t.Helper()
	if a.e != api.OK || len(a.im.Segs) == 0 || len(a.im.Segs[0].Data) < 4 {
		t.Fatalf("no word: %s", a)
	}
	i, e := inst.Dec(wordAt(a.im, 0, 0))
	if e != api.OK {
		t.Fatalf("no instruction: %s", a)
	}
	return i.Imm
}

func wordAt(im api.Image, seg, at int) uint32 {
	b := im.Segs[seg].Data[at:]
	return uint32(b[0]) | uint32(b[1])<<8 | uint32(b[2])<<16 | uint32(b[3])<<24
}

func TestImmNumber(t *testing.T) { // AQ2: the last operand as a number, at the ends of its range and one beyond
	for _, name := range withImm() {
		r := table[name]
		for _, n := range []int64{r.lo, r.lo + 1, -1, 0, 1, 9, 10, 31, r.hi - 1, r.hi} {
			if n < r.lo {
				continue
			}
			forms := []string{fmt.Sprint(n)}
			if n >= 0 {
				forms = append(forms, fmt.Sprintf("%#x", n), fmt.Sprintf("0x%08x", n))
			}
			for _, f := range forms {
				src := stem(name) + " " + f + "\n"
				if got := immOf(t, check(t, src)); got != int(n) {
					t.Errorf("%q: imm %d", src, got)
				}
			}
		}
		for _, n := range []string{fmt.Sprint(r.lo - 1), fmt.Sprint(r.hi + 1), fmt.Sprintf("%#x", r.hi+1), "0xffffffff", "0xffffe000", "4294967296", "-4294967296", hugest, "-9223372036854775808", "262144", "-131073", "18446744073"} {
			wrong(t, api.ErrForm, 1, stem(name)+" "+n+"\n")
		}
		for _, n := range []string{huge, hugeBelow, "18446744073709551616", "-18446744073709551616", strings.Repeat("9", 50)} {
			wrong(t, api.ErrRange, 1, stem(name)+" "+n+"\n", name+" "+n+"\n", stem(name)+" r1 r2 "+n+"\n", name+" - "+n+"\n")
		}
		for _, n := range []string{"007", "-0", "00", "+1", "0x", "0xA", "0X1", "0x123456789", "1x", "-x", "--1", "-", ".", "1.5", "1e3", "(1)", "a.b", "x+1", "x:", "4(r1)", seventeen, "'1'", "-0x1", "0x-1", "$", "=1", "#1"} {
			wrong(t, api.ErrForm, 1, stem(name)+" "+n+"\n", name+" "+n+"\n")
		}
	}
}

func TestImmName(t *testing.T) { // AQ2: the last operand as a name, whose value counts as signed
	for _, name := range withImm() {
		if name == "jal" || table[name].form == 'B' {
			continue
		}
		r := table[name]
		for _, n := range []int64{-1 << 31, -1 << 18, -131072, -8193, -8192, -8191, -1, 0, 1, 2, 3, 5, 31, 32, 8191, 8192, 131071, 131072, 262143, 262144, 1<<31 - 1, 1 << 31, 1<<31 + 5, 1<<32 - 262144, 1<<32 - 8193, 1<<32 - 8192, 1<<32 - 1} {
			signed := int64(int32(uint32(n)))
			src := fmt.Sprintf("%s k\n.equ k %d\n", stem(name), n)
			if signed < r.lo || signed > r.hi {
				wrong(t, api.ErrForm, 1, src)
			} else if got := immOf(t, check(t, src)); got != int(signed) {
				t.Errorf("%q: imm %d", src, got)
			}
		}
		wrong(t, api.ErrLabel, 1, stem(name)+" k\n", stem(name)+" K\n.equ k 1\n", stem(name)+" "+sixteen+"\n", name+" k\n", stem(name)+" 1 2 k\n")
		// A label's value is its address, wherever the instruction stands.
		src := ".org 12\n" + stem(name) + " k\n.org 20\nk:\n"
		if got := immOf(t, check(t, src)); got != 20 {
			t.Errorf("%q: imm %d", src, got)
		}
	}
}

func TestDistance(t *testing.T) { // AQ2: for form B and for jal a name is a distance in words
	for _, name := range withImm() {
		if name != "jal" && table[name].form != 'B' {
			continue
		}
		r := table[name]
		for _, at := range []int64{0, 4, 8, 100, 8192, 16376, 16380} {
			for _, d := range []int64{r.lo - 1, r.lo, r.lo + 1, -4096, -26, -2, -1, 0, 1, 2, 25, 4095, 4096, r.hi - 1, r.hi, r.hi + 1} {
				for off := range int64(4) {
					to := at + 4*d + off
					for _, value := range []int64{to, to & (1<<32 - 1)} {
						src := fmt.Sprintf(".org %d\n%s k\n.equ k %d\n", at, stem(name), value)
						switch {
						case off != 0:
							wrong(t, api.ErrRange, 2, src)
						case d < r.lo || d > r.hi:
							wrong(t, api.ErrForm, 2, src)
						default:
							if got := immOf(t, check(t, src)); got != int(d) {
								t.Errorf("%q: imm %d", src, got)
							}
						}
					}
				}
			}
			for _, far := range []string{"0x80000000", "0x7ffffffc", "0x40000000", "0xc0000000", "-2147483648", "2147483644"} {
				wrong(t, api.ErrForm, 2, fmt.Sprintf(".org %d\n%s k\n.equ k %s\n", at, stem(name), far))
			}
			// A number is no distance: it is the imm itself.
			src := fmt.Sprintf(".org %d\n%s 3\n", at, stem(name))
			if got := immOf(t, check(t, src)); got != 3 {
				t.Errorf("%q: imm %d", src, got)
			}
		}
		wrong(t, api.ErrLabel, 1, stem(name)+" k\n", name+" k\n")
		wrong(t, api.ErrRange, 1, name+" k\n.equ k 2\n", stem(name)+" 1 2 3 k\n.equ k 1\n", name+" - k\n.equ k -1\n")
		wrong(t, api.ErrRange, 2, "nop\n"+stem(name)+" k\n.byte 1\nk:\n")
		wrong(t, api.ErrForm, 1, name+" k\nk:\n", stem(name)+" 1 k\nk:\n", stem(name)+" r1 k\nk:\n")
	}
	right(t, "a: beq r1, r2, b\n jal r3, a\nb: bgeu r0, r15, a\n", "0 0:028004acffffc3c4feff03c0 a=0 b=8")
	// lui and jalr are of the forms of jal and of addi: their names are no distances.
	right(t, "nop\nk: lui r1, k\njalr r1, r2, k\n", "0 0:000000fc04004084040048c8 k=4")
}

func TestParts(t *testing.T) { // AQ2: hi and lo with a name
	for _, c := range []struct {
		v      uint32
		hi, lo int
	}{
		{0, 0, 0}, {1, 0, 1}, {8191, 0, 8191}, {8192, 1, -8192}, {8193, 1, -8191}, {16383, 1, -1}, {16384, 1, 0}, {24575, 1, 8191}, {24576, 2, -8192}, {0x12345678, 18641, 5752}, {0x7fffdfff, 131071, 8191}, {0x7fffe000, 131072, -8192}, {0x80000000, 131072, 0},
		{0xffffdfff, 262143, 8191}, {0xffffe000, 0, -8192}, {0xffffe001, 0, -8191}, {0xffffffff, 0, -1}, {0xffffc000, 262143, 0}, {0xffffbfff, 262143, -1},
	} {
		for part, want := range map[string]int{"hi": c.hi, "lo": c.lo} {
			for _, name := range withImm() {
				r := table[name]
				src := fmt.Sprintf("nop\n%s %s k\n.equ k %d\n", stem(name), part, c.v)
				if int64(want) < r.lo || int64(want) > r.hi {
					wrong(t, api.ErrForm, 2, src)
					continue
				}
				if got, e := inst.Dec(wordAt(check(t, src).im, 0, 4)); got.Imm != want || e != api.OK {
					t.Errorf("%q: imm %d, want %d", src, got.Imm, want)
				}
			}
		}
	}
}

func TestWrongParts(t *testing.T) { // AQ2: hi and lo with what is no name, with no name of the program, with nothing behind
	for _, name := range withImm() {
		for _, part := range []string{"hi", "lo"} {
			for _, w := range []string{"9", "0", "-1", "0x10", huge, hugeBelow, "-", "a.b", "k:", seventeen, "007", "(k)", "+k", ".k"} {
				wrong(t, api.ErrForm, 1, stem(name)+" "+part+" "+w+"\nk:\n", name+" "+part+" "+w+"\nk:\n", stem(name)+" 1 2 "+part+" "+w+"\nk:\n")
			}
			for _, w := range []string{"j", "K", "hi", "lo", "r1", sixteen, "nop", "_"} {
				wrong(t, api.ErrLabel, 1, stem(name)+" "+part+" "+w+"\nk:\n", name+" "+part+" "+w+"\nk:\n", name+" - - - - "+part+","+w+"\n")
			}
			// With nothing behind it is a name like another.
			wrong(t, api.ErrLabel, 1, stem(name)+" "+part+"\n", name+" "+part+"\n", stem(name)+" k "+part+"\nk:\n")
			wrong(t, api.ErrForm, 1, name+" "+part+" k\nk:\n", stem(name)+" 1 "+part+" k\nk:\n", stem(name)+" "+part+" k 1\nk:\n", stem(name)+" "+part+" k k\nk:\n", stem(name)+" "+part+" hi k\nk:\n", stem(name)+" "+strings.ToUpper(part)+" k\nk:\n")
		}
	}
}

func TestNamedParts(t *testing.T) { // AQ2: names hi and lo
	// hi is 4 and lo is 8 here, at the address 0.
	names := "\n.equ hi 4\n.equ lo 8\n"
	for s, imm := range map[string]int{
		"addi r1, r2, hi": 4, "addi r1, r2, lo": 8, "addi r1, r2, hi hi": 0, "addi r1, r2, hi lo": 0, "addi r1, r2, lo hi": 4, "addi r1, r2, lo lo": 8, "jal r1, hi": 1, "jal r1, lo": 2, "jal r1, lo hi": 4, "beq r1, r2, lo": 2, "beq r1, r2, lo lo": 8, "lui r1, hi": 4, "csrr r1, lo": 8, "csrw r1, lo hi": 4, "sw r1, r2, hi": 4,
	} {
		if got := immOf(t, check(t, s+names)); got != imm {
			t.Errorf("%q: imm %d, want %d", s, got, imm)
		}
	}
	wrong(t, api.ErrForm, 1, "addi r1, r2, hi lo hi"+names, "addi hi"+names, "jal hi, lo"+names, "addi r1, hi, 5"+names, "addi hi, lo, 5"+names, "add r1, r2, hi"+names, "add r1, hi, lo"+names, "out hi"+names, "nop hi"+names, "clz r1, lo hi"+names, "addi lo, r1, 5"+names)
}

func TestNamedRegisters(t *testing.T) { // AQ2: names such as r1 in the place of a register and of a number
	names := "\n.equ r1 7\n.equ r2 12\n.equ five 5\n"
	right(t, "addi r1, r2, r1"+names, "0 0:07004864 r1=7 r2=12 five=5")
	right(t, "add r1, r2, r1"+names, "0 0:00404804 r1=7 r2=12 five=5")
	right(t, "jal r2, r2"+names, "0 0:030080c4 r1=7 r2=12 five=5")
	right(t, ".byte r1 r2"+names, "0 0:070c r1=7 r2=12 five=5")
	right(t, "sw r1, r2, lo r2"+names, "0 0:0c8004a8 r1=7 r2=12 five=5")
	wrong(t, api.ErrForm, 1, "addi five, r2, 5"+names, "addi r1, five, 5"+names, "add r1, r2, five"+names, "out five"+names, "addi r1, r2"+names, "addi r1"+names, "jal r1, r2, r2"+names, "lui r2"+names, "csrw five, 4"+names, "swap r1, r2, five"+names, "clz r1, five"+names, "addi r16, r0, r1"+names)
	wrong(t, api.ErrLabel, 1, "addi r1, r2, r3"+names, "addi r3"+names, "addi r1, r2, r0"+names, "addi r1, r2, 5, r4"+names, "csrr r7"+names)
	wrong(t, api.ErrRange, 1, "jal r1, r1"+names, "jal r1"+names, "beq r2, five"+names)
}

func TestOperands(t *testing.T) { // AQ2: operands too many, too few, in the wrong order; the errors of Parse of layer 7
	wrong(t, api.ErrForm, 1,
		"add\n", "add r1\n", "add r1 r2\n", "add r1 r2 3\n", "add r1 r2 r3 r4\n", "add r1 r2 r16\n", "add r1 r2 r03\n", "add r1 r2 R3\n", "add 1 2 3\n", "add r1 r2 x\n", "add r1 r2 0x3\n", "add r1 r2 "+huge+"\n", "add r1 r2 hi x\n", "add hi 9\n", "clz r1\n", "clz r1 r2 r3\n", "clz r1 2\n", "cas r1 r2\n",
		"addi\n", "addi 5\n", "addi r1 5\n", "addi r1 r2 r3 4\n", "addi r1 r2 4 5\n", "addi r1 2 3\n", "addi 1 r2 3\n", "addi r16 r0 1\n", "addi r1 r-1 1\n", "addi r1 r1x 1\n", "addi R1 r2 3\n", "addi r01 r2 3\n", "addi r r2 3\n", "addi x r2 3\n", "lw r1 4(r2)\n", "lw r1 r2 4(r2)\n", "sw r1\t4\n", "sw 4 r1 5\n",
		"beq r1 4\n", "beq\n", "beq 1\n", "jal 4\n", "jal\n", "jal r1 r2 4\n", "lui\n", "lui 1\n", "lui r1 r2 1\n", "lui r1 -1\n", "csrr\n", "csrr 7\n", "csrw\n", "csrw 4\n", "csrw r1 r2 4\n", "csrr r1 8192\n",
		"out\n", "out 1\n", "out r1 r2\n", "out x\n", "out r16\n", "out 0x1\n", "send\n", "send "+huge+"\n", "send hi x\n", "nop 0\n", "nop nop\n", "halt r0\n", "call 1\n", "tret x\n", "fence hi 9\n", "sync "+huge+"\n", "nop x\nx:\n", "out x\nx:\n", "add r1 r2 x\nx:\n",
	)
	wrong(t, api.ErrLabel, 1, "addi r1\n", "addi r1 r2\n", "addi r1 5 r2\n", "addi r1 r2 r3\n", "sw r1 r2\n", "beq r1 r2\n", "beq r1\n", "jal r1\n", "jal 4 r1\n", "lui 1 r1\n", "csrr r1\n", "csrw r4\n", "csrr r1 status\n", "lw r1 4 r2\n", "jalr r1 r2\n", "addi - - x\n", "addi r99 x\n")
	for _, name := range names() {
		r := table[name]
		if src := name + "\n"; len(r.operands) > 0 {
			wrong(t, api.ErrForm, 1, src)
		} else if got := check(t, src); wordAt(got.im, 0, 0) != r.op<<26 {
			t.Errorf("%q: %s", src, got)
		}
		for _, more := range []string{"0", "-1", "0x1", "-", "r1:"} {
			if !strings.HasSuffix(r.operands, "i") {
				wrong(t, api.ErrForm, 1, name+" "+more+"\n", stem(name)+" "+more+"\n")
			} else {
				wrong(t, api.ErrForm, 1, name+" "+more+"\n", stem(name)+" 1 "+more+"\n")
			}
		}
	}
}

func TestSegments(t *testing.T) { // AQ3: the maximal sequences of placed bytes, in order of address
	right(t, "nop\n.byte 1\n.space 3\n.word 2\nhalt\n", "0 0:000000fc0100000002000000000000f4")
	right(t, ".byte 1\n.org 2\n.byte 2\n.org 4\n.byte 3\n", "0 0:01 2:02 4:03")
	right(t, ".org 8\n.byte 8\n.org 4\n.byte 4\n.org 0\n.byte 0\n", "0 0:00 4:04 8:08")
	right(t, ".org 8\nnop\n.org 4\nnop\n.org 12\nnop\n", "4 4:000000fc000000fc000000fc")
	right(t, ".org 16383\n.byte 9\n.org 0\n.byte 8\n", "0 0:08 16383:09")
	right(t, ".org 4\n.space 4\n.org 12\n.space 1\n", "4 4:00000000 12:00")
	right(t, ".org 5\n.space 0\n.org 7\n.byte 1\n.org 9\n.space 0\n", "7 7:01")
	right(t, ".byte 1\n.org 3\n.space 0\n.byte 2\n.org 1\n.space 2\n", "0 0:01000002")
	right(t, ".org 2\n.byte 2\n.org 0\n.byte 0\n.org 1\n.byte 1\n", "0 0:000102")
	var src strings.Builder
	for at := 1; at < 8000; at += 2 {
		fmt.Fprintf(&src, ".org %d\n", at)
		if src.WriteString(".byte 5\n"); at >= 4000 {
			break
		}
	}
	if got := check(t, src.String()); len(got.im.Segs) != 2001 || got.im.Start != 1 {
		t.Errorf("%d segments from %d on", len(got.im.Segs), got.im.Start)
	}
}

func TestStart(t *testing.T) { // AQ3: Start by the name start, otherwise the lowest address
	right(t, ".org 8\nnop\nstart: nop\n", "12 8:000000fc000000fc start=12")
	right(t, "nop\n.equ start 0xfffffff0\n", "4294967280 0:000000fc start=4294967280")
	right(t, ".equ start -1\n", "4294967295 start=4294967295")
	right(t, ".org 64\nnop\n.equ start 0\n", "0 64:000000fc start=0")
	right(t, "start:\n.org 64\nnop\n", "0 64:000000fc start=0")
	right(t, ".org 64\nnop\n.org 32\nnop\n", "32 32:000000fc 64:000000fc")
	right(t, ".org 3\n.byte 1\nStart: START: start_: _start:\n", "3 3:01 Start=4 START=4 start_=4 _start=4")
	right(t, ".org 40\nstart:\n", "40 start=40")
}

func TestOrderOfNames(t *testing.T) { // AQ3: the names in order of definition
	right(t, "z: y: .equ x 1\n.org 8\nb: nop\na: .equ Z 2\n", "8 8:000000fc z=0 y=0 x=1 b=8 a=12 Z=2")
	var src strings.Builder
	for k := range 4000 {
		fmt.Fprintf(&src, "n%d: nop\n", k*7919%4000)
	}
	got := check(t, src.String())
	for k, n := range got.names {
		if n != (api.Name{Text: fmt.Sprintf("n%d", k*7919%4000), Val: uint32(4 * k)}) {
			t.Fatalf("name %d is %v", k, n)
		}
	}
	if len(got.names) != 4000 {
		t.Errorf("%d names", len(got.names))
	}
}

func TestNewMemory(t *testing.T) { // AQ3, R3, R4: answers are alike at every call, and share nothing
	const src = "a: nop\n.org 8\nb: .byte 1 2 3\n"
	first := assembled(src)
	want := first.String()
	second := assembled(src)
	for _, s := range first.im.Segs {
		clear(s.Data)
		_ = append(s.Data, 99, 99, 99, 99, 99, 99, 99, 99)
	}
	first.im.Segs[0], first.names[0] = api.Seg{}, api.Name{}
	if got := second.String(); got != want {
		t.Errorf("%s, want %s", got, want)
	}
	third := assembled(src)
	_ = append(third.im.Segs[0].Data, 1, 2, 3, 4, 5, 6, 7, 8, 9, 10, 11, 12, 13, 14, 15, 16)
	if got := third.String(); got != want {
		t.Errorf("%s, want %s", got, want)
	}
}

// pool has lines of every kind, right and wrong ones.
var pool = []string{
	"", ";", "a:", "b:", "a: b:", "start:", "hi:", "r1:", "9:", "a::", "a: nop", "nop", "halt ; a:", "foo", "foo a", "NOP", ".", ".org", ".org 0", ".org 2", ".org 4", ".org 16380", ".org 16384", ".org 16385", ".org -1", ".org a", ".org " + huge,
	".space", ".space 0", ".space 1", ".space 4", ".space 16384", ".space x", ".word", ".word 1", ".word -1 a", ".word a b", ".word 4294967296", ".word 1 - a", ".word " + huge, ".byte 1", ".byte 1 2 3 4", ".byte 255 -128", ".byte 256", ".byte a", ".byte b 256", ".byte -",
	".equ a 0", ".equ a 1", ".equ a 4", ".equ a 256", ".equ a -4", ".equ a 0x80000000", ".equ a x", ".equ b 8", ".equ b 4294967295", ".equ b 4294967296", ".equ start 12", ".equ start 1", ".equ hi 16384", ".equ lo 8192", ".equ r1 5", ".equ a", ".equ 9 1", "a: .equ b 3", "a: .equ a 3", "b: .org 8", "b: .space 2", "b: .word 7 a", "b: .byte a",
	"add r1, r2, r3", "add r1, r2, a", "addi r1, r2, 3", "addi r1, r2, 0x1fff", "addi r1, r2, 8192", "addi r1, r2, a", "addi r1, r2, hi a", "addi r1, r2, lo b", "addi r1, r2, hi 9", "addi r1, r2, " + huge, "addi r1, r2, hi", "addi r1, r2, r1", "addi r1, a", "sw r1, r2, a", "sw r1, r2, lo a", "beq r1, r2, a", "beq r1, r2, 1", "bne r1, a", "jal r0, a", "jal r0, b", "jal r0, hi b", "jal a", "jalr r0, r1, a",
	"lui r1, a", "lui r1, hi a", "lui r1, -1", "csrr r1, a", "csrr r1, 7", "csrw r1, b", "csrw 7, r1", "out r1", "out a", "nop a", "call", "tret 1", "clz r1, r2", "cas r1, r2, r3", "slli r1, r2, a", "srai r1, r2, 32", "a:nop", "nop:", "jal r0 b ; a", "\t,b:,\tjal\tr0,,a\t", "\x7f", "x\r",
}

func TestPairs(t *testing.T) { // AQ1 to AQ3: every program of two lines of the pool
	for _, a := range pool {
		for _, b := range pool {
			check(t, a+"\n"+b+"\n")
		}
	}
}

// choose is a choice of one of n by a state that it moves on.
func choose(x *uint64, n int) int {
	*x = *x*6364136223846793005 + 1442695040888963407
	return int(*x >> 33 % uint64(n))
}

func TestPrograms(t *testing.T) { // AQ1 to AQ3: programs of many lines of the pool
	x, counts := uint64(1), map[api.Errno]int{}
	for range 30000 {
		var src strings.Builder
		for range 1 + choose(&x, 6) {
			src.WriteString(pool[choose(&x, len(pool))] + "\n")
		}
		counts[check(t, src.String()).e]++
	}
	for _, e := range []api.Errno{api.OK, api.ErrForm, api.ErrRange, api.ErrTwice, api.ErrOp, api.ErrLabel} {
		if counts[e] < 100 {
			t.Errorf("error %d occurs %d times", e, counts[e])
		}
	}
}

func TestRightPrograms(t *testing.T) { // AQ1 to AQ3: long programs, nearly all of whose lines are right
	x, fine := uint64(2), 0
	for range 400 {
		var src strings.Builder
		n := 20 + choose(&x, 60)
		label := func() string { return fmt.Sprintf("l%d", choose(&x, n)) }
		for k := range n {
			fmt.Fprintf(&src, "l%d: ", k)
			name := names()[choose(&x, len(table))]
			switch r := table[name]; choose(&x, 8) {
			case 0:
				fmt.Fprintf(&src, ".word %d %s\n", int32(choose(&x, 1<<31)), label())
			case 1:
				fmt.Fprintf(&src, ".byte %d %d 0x%x 0\n", choose(&x, 256), choose(&x, 128)-128, choose(&x, 256))
			case 2:
				fmt.Fprintf(&src, ".org %d\n", 4*choose(&x, 4096))
			case 3:
				fmt.Fprintf(&src, ".space %d\n", 4*choose(&x, 20))
			default:
				s := name
				for _, o := range r.operands {
					if o != 'i' {
						s += fmt.Sprintf(" r%d,", choose(&x, 16))
					}
				}
				switch {
				case r.form == 'B' || name == "jal":
					s += label()
				case strings.HasSuffix(r.operands, "i"):
					s += fmt.Sprint(choose(&x, 32))
				}
				src.WriteString(s + "\n")
			}
		}
		if check(t, src.String()).e == api.OK {
			fine++
		}
	}
	if fine < 100 {
		t.Errorf("%d programs without an error", fine)
	}
}

func TestEveryByte(t *testing.T) { // AQ1, AQ2: every byte in the place of a byte of a line
	for _, line := range []string{"ab: jal r1, ab", "a: .word a, 1", ".byte a 0x1f ;x\na:", ".equ a 10\nlui r1, hi a", "addi r1, r2, -12", ".org 8\nout r10"} {
		for k := range line {
			for b := range 256 {
				check(t, line[:k]+string([]byte{byte(b)})+line[k+1:]+"\n")
				check(t, line[:k]+string([]byte{byte(b)})+line[k:]+"\n")
			}
			check(t, line[:k]+line[k+1:]+"\n")
		}
	}
}

// listing is the lines of AQ4, by the layers that it names.
func listing(im api.Image) []string {
	var l []string
	for _, s := range im.Segs {
		padded := append(slices.Clone(s.Data), 0, 0, 0)
		for k := 0; k < len(s.Data); k += 4 {
			w := uint32(padded[k]) + 256*uint32(padded[k+1]) + 65536*uint32(padded[k+2]) + 16777216*uint32(padded[k+3])
			line := fmt.Sprintf("%08x: %08x", uint32(uint64(s.At)+uint64(k)), w)
			if i, e := inst.Dec(w); e == api.OK {
				line += "  " + text.Print(i)
			}
			l = append(l, line)
		}
	}
	return l
}

func checkListing(t *testing.T, im api.Image, want ...string) {
	t.Helper()
	if got := Listing(im); !slices.Equal(got, want) {
		t.Errorf("Listing(%v) = %q, want %q", im, got, want)
	}
}

func TestListing(t *testing.T) { // AQ4: lines written out
	checkListing(t, api.Image{})
	checkListing(t, api.Image{Start: 7, Segs: []api.Seg{}})
	checkListing(t, api.Image{Segs: []api.Seg{{At: 4}, {At: 8, Data: []byte{}}}})
	checkListing(t, api.Image{Segs: []api.Seg{{At: 0, Data: []byte{5, 0, 0x40, 0x64}}}}, "00000000: 64400005  addi r1, r0, 5")
	checkListing(t, api.Image{Start: 4, Segs: []api.Seg{{At: 16, Data: []byte{0, 0, 0, 0, 7}}, {At: 4, Data: []byte{0, 0, 0, 0xfc}}, {}, {At: 4, Data: []byte{1}}}}, "00000010: 00000000", "00000014: 00000007", "00000004: fc000000  nop", "00000004: 00000001")
	checkListing(t, api.Image{Segs: []api.Seg{{At: 3, Data: []byte{0, 0, 0, 0xf4, 0xff, 0xff, 0xff, 0xff, 0xff}}}}, "00000003: f4000000  halt", "00000007: ffffffff", "0000000b: 000000ff")
	checkListing(t, api.Image{Segs: []api.Seg{{At: 0xfffffffe, Data: []byte{1, 2, 3, 4, 5, 6, 7, 8, 9}}}}, "fffffffe: 04030201", "00000002: 08070605", "00000006: 00000009")
	checkListing(t, api.Image{Segs: []api.Seg{{At: 0xffffffff, Data: []byte{0, 0, 0, 0xd8, 0}}}}, "ffffffff: d8000000  call", "00000003: 00000000")
	checkListing(t, api.Image{Segs: []api.Seg{{At: 0xabcdef00, Data: []byte{0xff, 0xff, 0xc3, 0xc7, 0xff, 0xff, 0xff, 0xc7}}}}, "abcdef00: c7c3ffff  jal r15, -1", "abcdef04: c7ffffff")
}

func TestListingLengths(t *testing.T) { // AQ4: segments of every length and at every kind of address; bytes that are missing count as 0
	bytes := []byte{0xff, 0xfe, 0xfd, 0xfc, 0xfb, 0xfa, 0xf9, 0xf8, 0xf7, 0xf6, 0xf5, 0xf4, 0xf3}
	for n := range len(bytes) + 1 {
		for _, at := range []uint32{0, 1, 2, 3, 4, 16383, 16384, 1 << 31, 0xfffffff0, 0xfffffff9, 0xfffffffc, 0xfffffffd, 0xffffffff} {
			im := api.Image{Start: at, Segs: []api.Seg{{At: at, Data: bytes[:n]}, {At: 2, Data: bytes[n:]}}}
			checkListing(t, im, listing(im)...)
			if l := Listing(im); len(l) != (n+3)/4+(len(bytes)-n+3)/4 {
				t.Errorf("%d lines of %d bytes", len(l), n)
			}
		}
	}
	big := api.Image{Segs: []api.Seg{{At: 0xfffff000, Data: make([]byte, 100001)}}}
	checkListing(t, big, listing(big)...)
}

func TestListingKeeps(t *testing.T) { // AQ4, R3: the bytes handed in are not changed, nor is what lies behind them
	data := []byte{1, 2, 3, 4, 5, 6, 7, 8}
	im := api.Image{Start: 3, Segs: []api.Seg{{At: 1, Data: data[:5]}, {At: 9, Data: data[2:3]}}}
	want := Listing(im)
	if !slices.Equal(data, []byte{1, 2, 3, 4, 5, 6, 7, 8}) || im.Start != 3 || im.Segs[0].At != 1 || len(im.Segs[0].Data) != 5 || im.Segs[1].At != 9 {
		t.Errorf("%v, %v", data, im)
	}
	if !slices.Equal(want, []string{"00000001: 04030201", "00000005: 00000005", "00000009: 00000003"}) || !slices.Equal(Listing(im), want) {
		t.Errorf("%q", want)
	}
}

// instructions has valid instructions of every operation.
func instructions() []api.Inst {
	var l []api.Inst
	for _, name := range names() {
		r := table[name]
		for k, imm := range []int64{r.lo, r.lo + 1, -100, -1, 0, 1, 5, 21, 31, 100, r.hi - 1, r.hi} {
			i := api.Inst{Op: int(r.op)}
			if strings.Contains(r.operands, "d") {
				i.Rd = (k*5 + 1) % 16
			}
			if strings.Contains(r.operands, "a") {
				i.Ra = (k*3 + 15) % 16
			}
			if strings.Contains(r.operands, "b") {
				i.Rb = (k*7 + 9) % 16
			}
			if strings.Contains(r.operands, "i") {
				i.Imm = int(min(max(imm, r.lo), r.hi))
			}
			l = append(l, i)
		}
	}
	return l
}

func TestListingInstructions(t *testing.T) { // AQ4, AQ5: words of every form are listed with their texts, which are assembled to the same words
	var data []byte
	var lines []string
	for k, i := range instructions() {
		w, e := inst.Enc(i)
		if e != api.OK {
			t.Fatalf("%+v: %d", i, e)
		}
		data = append(data, byte(w), byte(w>>8), byte(w>>16), byte(w>>24))
		lines = append(lines, fmt.Sprintf("%08x: %08x  %s", 4*k, w, text.Print(i)))
	}
	im := api.Image{Segs: []api.Seg{{Data: data}}}
	checkListing(t, im, lines...)
	var src strings.Builder
	for _, l := range lines {
		src.WriteString(l[20:] + "\n")
	}
	if got := check(t, src.String()); got.String() != (answer{im: im}).String() {
		t.Errorf("%.200s", got)
	}
}

func TestListingWords(t *testing.T) { // AQ4: words that are instructions and words that are none
	x, is := uint64(3), 0
	var data []byte
	for range 20000 {
		w := uint32(choose(&x, 1<<31)) << 1
		if choose(&x, 2) == 0 {
			w &^= 0x3ffff
		}
		data = append(data, byte(w), byte(w>>8), byte(w>>16), byte(w>>24))
	}
	im := api.Image{Segs: []api.Seg{{At: 5, Data: data}}}
	want := listing(im)
	for _, l := range want {
		if len(l) > 18 {
			is++
		}
	}
	if checkListing(t, im, want...); is < 1000 || is > 19000 {
		t.Errorf("%d words are instructions", is)
	}
}

func TestPrinted(t *testing.T) { // AQ5: instructions printed by layer 7, one per line, are assembled to their words
	var src strings.Builder
	var want []uint32
	flush := func() {
		t.Helper()
		im, names, line, e := Assemble(src.String())
		if e != api.OK || line != 0 || len(names) != 0 || im.Start != 0 || len(im.Segs) != 1 || im.Segs[0].At != 0 || len(im.Segs[0].Data) != 4*len(want) {
			t.Fatalf("%d words: line %d, error %d", len(want), line, e)
		}
		for k, w := range want {
			if got := wordAt(im, 0, 4*k); got != w {
				t.Fatalf("word %d is %08x, want %08x", k, got, w)
			}
		}
		src.Reset()
		want = want[:0]
	}
	add := func(i api.Inst) {
		w, _ := inst.Enc(i)
		want = append(want, w)
		src.WriteString(text.Print(i) + "\n")
		if len(want) == 3000 {
			flush()
		}
	}
	for _, i := range instructions() {
		r := table[text.Name(i.Op)]
		for k := range 16 {
			if add(i); strings.Contains(r.operands, "d") {
				i.Rd = k
			}
			if add(i); strings.Contains(r.operands, "a") {
				i.Ra = k
			}
			if add(i); strings.Contains(r.operands, "b") {
				i.Rb = k
			}
		}
	}
	for imm := -8192; imm < 8192; imm++ {
		add(api.Inst{Op: api.OAddi, Rd: 1, Ra: 2, Imm: imm})
		add(api.Inst{Op: api.OBne, Ra: 1, Rb: 2, Imm: imm})
	}
	flush()
}

func TestBytes(t *testing.T) { // AQ5: bytes given by .org and .byte are placed unchanged
	for _, at := range []int{0, 1, 3, 250, 16128} {
		src, want := fmt.Sprintf(".org %d\n", at), ""
		for b := range 256 {
			src += fmt.Sprintf(".byte %d\n", b)
			want += fmt.Sprintf("%02x", b)
		}
		right(t, src, fmt.Sprintf("%d %d:%s", at, at, want))
	}
	for b := -128; b < 256; b++ {
		right(t, fmt.Sprintf(".org 9\n.byte %d\n", b), fmt.Sprintf("9 9:%02x", byte(b)))
		if b >= 0 {
			right(t, fmt.Sprintf(".byte 7 0x%x k\n.equ k %d\n", b, b), fmt.Sprintf("0 0:07%02x%02x k=%d", b, b, b))
		}
	}
	// Bytes all over memory, in an order of their own.
	var src strings.Builder
	placed := map[uint32]byte{}
	for k := range 2000 {
		at := uint32(k * 7919 % api.MaxMem)
		placed[at] = byte(k * 31)
		fmt.Fprintf(&src, ".org %d\n.byte %d\n", at, placed[at])
	}
	n := 0
	for _, s := range check(t, src.String()).im.Segs {
		for k, b := range s.Data {
			if want, is := placed[s.At+uint32(k)]; !is || b != want {
				t.Fatalf("byte %d is %d, want %d, %v", s.At+uint32(k), b, want, is)
			}
			n++
		}
	}
	if n != len(placed) {
		t.Errorf("%d bytes, want %d", n, len(placed))
	}
}

func TestJumps(t *testing.T) { // AQ5: a jump and a branch to a label go there, forwards and backwards
	const n = 300
	for _, name := range []string{"jal", "beq", "bne", "blt", "bge", "bltu", "bgeu"} {
		var src strings.Builder
		for k := range n {
			fmt.Fprintf(&src, "l%d: %s l%d\n", k, stem(name), k*97%n)
		}
		got := check(t, src.String())
		for k := range n {
			i, e := inst.Dec(wordAt(got.im, 0, 4*k))
			if to := uint32(4*k + 4*i.Imm); e != api.OK || to != uint32(4*(k*97%n)) {
				t.Fatalf("%s at %d goes to %d, error %d", name, 4*k, to, e)
			}
		}
	}
	// The longest jumps within memory.
	right(t, "a: jal r0, b\n.org 16380\nb: jal r0, a\n", "0 0:ff0f00c4 16380:01f003c4 a=0 b=16380")
	right(t, "a: beq r0, r0, b\n.org 16380\nb: beq r0, r0, a\n", "0 0:ff0f00ac 16380:013000ac a=0 b=16380")
}

func TestLoadedParts(t *testing.T) { // AQ5: lui of hi and addi of lo yield the value of the name
	values := []uint32{0, 1, 2, math.MaxUint32, math.MaxUint32 - 1, 1 << 31, 1<<31 - 1, 0x12345678, 0xdeadbeef}
	for k := range 32 {
		for d := range uint32(5) {
			values = append(values, 1<<k+d-2)
		}
	}
	for _, m := range []uint32{1, 2, 3, 1000, 131071, 131072, 262142, 262143} {
		for d := range uint32(7) {
			values = append(values, m<<14+d-3, m<<14+1<<13+d-3, m<<13+d-3)
		}
	}
	x := uint64(4)
	for range 2000 {
		values = append(values, uint32(choose(&x, 1<<31))<<1|uint32(choose(&x, 2)))
	}
	for _, v := range values {
		src := fmt.Sprintf("lui r1, hi k\naddi r1, r1, lo k\n.equ k %d\n", v)
		im, _, line, e := Assemble(src)
		if e != api.OK {
			t.Fatalf("%q: error %d in line %d", src, e, line)
		}
		hi, _ := inst.Dec(wordAt(im, 0, 0))
		lo, _ := inst.Dec(wordAt(im, 0, 4))
		if got := uint32(hi.Imm)<<14 + uint32(lo.Imm); hi.Op != api.OLui || lo.Op != api.OAddi || got != v {
			t.Errorf("%q: %d", src, got)
		}
	}
}
