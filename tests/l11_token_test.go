package tests

import (
	"math"
	"math/big"
	"regexp"
	"slices"
	"strconv"
	"strings"
	"sync"
	"testing"

	"loop.example/g00242/impl"
)

func nameAt(at int, text string) impl.Token {
	return impl.Token{Kind: impl.TkName, Text: text, At: at}
}

func numAt(at int, n int) impl.Token { return impl.Token{Kind: impl.TkNum, N: n, At: at} }

func textAt(at int, text string) impl.Token {
	return impl.Token{Kind: impl.TkText, Text: text, At: at}
}

func signAt(at int, text string) impl.Token {
	return impl.Token{Kind: impl.TkSign, Text: text, At: at}
}

func endAt(at int) impl.Token { return impl.Token{Kind: impl.TkEnd, At: at} }

func signTexts() []string {
	return []string{"(", ")", "{", "}", ",", ";", ":", ".", "=", "+", "-", "*", "<", "!", "=="}
}

func wordTexts() []string {
	return []string{"let", "if", "else", "while", "return", "print", "function", "true", "false", "null", "undefined", "proto"}
}

// Each kind is asked for by a pattern of its own.
var (
	aName   = regexp.MustCompile(`^[a-zA-Z][a-zA-Z0-9]*`)
	aNumber = regexp.MustCompile(`^[0-9]+`)
	aText   = regexp.MustCompile(`^"[ !#-~]{0,30}"`)
	aSign   = regexp.MustCompile(`^(==|[-(){},;:.=+*<!])`)
)

// wantToken: what stands at the front of a text that is not empty, how many bytes it has, and whether that is a token.
func wantToken(at int, text string) (impl.Token, int, bool) {
	if name := aName.FindString(text); name != "" {
		return nameAt(at, name), len(name), len(name) < 13
	}
	if digits := aNumber.FindString(text); digits != "" {
		n, _ := new(big.Int).SetString(digits, 10)
		small := n.Cmp(big.NewInt(1<<31)) < 0 && n.String() == digits
		return numAt(at, int(n.Int64())), len(digits), small
	}
	if quoted := aText.FindString(text); quoted != "" {
		return textAt(at, quoted[1:len(quoted)-1]), len(quoted), true
	}
	sign := aSign.FindString(text)
	return signAt(at, sign), len(sign), sign != ""
}

// wantTokens asks for what is none over the whole source, and only then for its length.
func wantTokens(src string) ([]impl.Token, int) {
	var list []impl.Token
	for at := 0; at < len(src); {
		if src[at] == 32 || src[at] == 10 {
			at++
			continue
		}
		one, size, ok := wantToken(at, src[at:])
		if !ok {
			return nil, at
		}
		list = append(list, one)
		at += size
	}
	if len(src) >= 801 {
		return nil, 0
	}
	return append(list, endAt(len(src))), -1
}

func checkTokens(t *testing.T, src string, want []impl.Token, wantBad int) {
	t.Helper()
	got, bad := impl.Tokens(src)
	if bad != wantBad || !slices.Equal(got, want) {
		t.Errorf("%.60q (%d bytes): %v %d, want %v %d", src, len(src), got, bad, want, wantBad)
	}
}

func checkRight(t *testing.T, src string, want ...impl.Token) {
	t.Helper()
	checkTokens(t, src, append(want, endAt(len(src))), -1)
}

func checkNone(t *testing.T, src string, at int) {
	t.Helper()
	checkTokens(t, src, nil, at)
}

// tokenBytes: how a token is written.
func tokenBytes(one impl.Token) string {
	switch one.Kind {
	case impl.TkNum:
		return strconv.Itoa(one.N)
	case impl.TkText:
		return "\"" + one.Text + "\""
	}
	return one.Text
}

func TestP11Constants(t *testing.T) {
	if impl.MaxSource != 800 {
		t.Error("MaxSource", impl.MaxSource)
	}
	kinds := []int{impl.TkEnd, impl.TkName, impl.TkNum, impl.TkText, impl.TkSign}
	if !slices.Equal(kinds, []int{0, 1, 2, 3, 4}) {
		t.Error("kinds", kinds)
	}
}

func TestP11Programs(t *testing.T) {
	checkRight(t, "")
	checkRight(t, "x", nameAt(0, "x"))
	checkRight(t, "let x = 1;", nameAt(0, "let"), nameAt(4, "x"), signAt(6, "="), numAt(8, 1), signAt(9, ";"))
	checkRight(t, "\n let\n\nx=1 ;\n ", nameAt(2, "let"), nameAt(7, "x"), signAt(8, "="), numAt(9, 1), signAt(11, ";"))
	checkRight(t, `print "a b"+"";`, nameAt(0, "print"), textAt(6, "a b"), signAt(11, "+"), textAt(12, ""), signAt(14, ";"))
	checkRight(t, "while(i<10){i=i+1;}",
		nameAt(0, "while"), signAt(5, "("), nameAt(6, "i"), signAt(7, "<"), numAt(8, 10), signAt(10, ")"), signAt(11, "{"),
		nameAt(12, "i"), signAt(13, "="), nameAt(14, "i"), signAt(15, "+"), numAt(16, 1), signAt(17, ";"), signAt(18, "}"))
	checkRight(t, "o.p = {a: -1, b2: !c * d};",
		nameAt(0, "o"), signAt(1, "."), nameAt(2, "p"), signAt(4, "="), signAt(6, "{"), nameAt(7, "a"), signAt(8, ":"),
		signAt(10, "-"), numAt(11, 1), signAt(12, ","), nameAt(14, "b2"), signAt(16, ":"), signAt(18, "!"), nameAt(19, "c"),
		signAt(21, "*"), nameAt(23, "d"), signAt(24, "}"), signAt(25, ";"))
	checkRight(t, `if (x == "let") {} else {}`,
		nameAt(0, "if"), signAt(3, "("), nameAt(4, "x"), signAt(6, "=="), textAt(9, "let"), signAt(14, ")"), signAt(16, "{"),
		signAt(17, "}"), nameAt(19, "else"), signAt(24, "{"), signAt(25, "}"))
	checkRight(t, "function(a,b)\n{return a;}",
		nameAt(0, "function"), signAt(8, "("), nameAt(9, "a"), signAt(10, ","), nameAt(11, "b"), signAt(12, ")"), signAt(14, "{"),
		nameAt(15, "return"), nameAt(22, "a"), signAt(23, ";"), signAt(24, "}"))
}

func TestP11Signs(t *testing.T) {
	for _, sign := range signTexts() {
		checkRight(t, sign, signAt(0, sign))
		checkRight(t, " "+sign+"\n", signAt(1, sign))
		checkRight(t, "a"+sign+"1", nameAt(0, "a"), signAt(1, sign), numAt(1+len(sign), 1))
		checkRight(t, `"`+sign+`"`, textAt(0, sign))
	}
	checkRight(t, "===", signAt(0, "=="), signAt(2, "="))
	checkRight(t, "====", signAt(0, "=="), signAt(2, "=="))
	checkRight(t, "= =", signAt(0, "="), signAt(2, "="))
	checkRight(t, "=\n=", signAt(0, "="), signAt(2, "="))
	checkRight(t, "= ==", signAt(0, "="), signAt(2, "=="))
	checkRight(t, "!=", signAt(0, "!"), signAt(1, "="))
	checkRight(t, "!==", signAt(0, "!"), signAt(1, "=="))
	checkRight(t, "<=", signAt(0, "<"), signAt(1, "="))
	checkRight(t, "--", signAt(0, "-"), signAt(1, "-"))
	checkRight(t, "++", signAt(0, "+"), signAt(1, "+"))
}

// aToken: one of any kind, with texts and numbers up to their limits.
func aToken(rnd *dice) impl.Token {
	const letters = "abcdefghijklmnopqrstuvwxyzABCDEFGHIJKLMNOPQRSTUVWXYZ"
	const both = letters + "0123456789"
	switch rnd.below(6) {
	case 0:
		name := string(letters[rnd.below(len(letters))])
		for range rnd.below(12) {
			name += string(both[rnd.below(len(both))])
		}
		return nameAt(0, name)
	case 1:
		return nameAt(0, wordTexts()[rnd.below(12)])
	case 2:
		return numAt(0, []int{0, 1, 9, 10, 100, 1<<31 - 1, rnd.below(1 << 31)}[rnd.below(7)])
	case 3:
		var text []byte
		for range rnd.below(impl.MaxText + 1) {
			if b := byte(32 + rnd.below(95)); b != '"' {
				text = append(text, b)
			}
		}
		return textAt(0, string(text))
	}
	return signAt(0, signTexts()[rnd.below(15)])
}

// oneWhenClose: with nothing between they would be another token.
func oneWhenClose(a, b impl.Token) bool {
	switch {
	case a.Kind == impl.TkName:
		return b.Kind == impl.TkName || b.Kind == impl.TkNum
	case a.Kind == impl.TkNum:
		return b.Kind == impl.TkNum
	}
	return a.Text == "=" && a.Kind == impl.TkSign && b.Kind == impl.TkSign && strings.HasPrefix(b.Text, "=")
}

func someBlanks(rnd *dice, least int) string {
	var out strings.Builder
	for range least + rnd.below(3) {
		out.WriteByte(" \n"[rnd.below(2)])
	}
	return out.String()
}

// aSource: tokens one behind the other, with what stands between, and where each one stands.
func aSource(rnd *dice, most int) (string, []impl.Token) {
	var src strings.Builder
	var list []impl.Token
	src.WriteString(someBlanks(rnd, 0))
	for range rnd.below(40) {
		one := aToken(rnd)
		if len(list) > 0 {
			least := 0
			if oneWhenClose(list[len(list)-1], one) {
				least = 1
			}
			src.WriteString(someBlanks(rnd, least))
		}
		if src.Len()+len(tokenBytes(one))+2 > most {
			break
		}
		one.At = src.Len()
		src.WriteString(tokenBytes(one))
		list = append(list, one)
	}
	src.WriteString(someBlanks(rnd, 0))
	return src.String(), list
}

func TestP11EachBeginsWhereItIsTold(t *testing.T) {
	rnd := &dice{11}
	for range 3000 {
		src, want := aSource(rnd, impl.MaxSource-2)
		checkRight(t, src, slices.Clone(want)...)
		list, bad := impl.Tokens(src)
		if bad != -1 || len(list) == 0 {
			t.Fatalf("%q: %v %d", src, list, bad)
		}
		end := 0
		for _, one := range list {
			if one.At < end || strings.Trim(src[end:one.At], " \n") != "" {
				t.Fatalf("%q: %v begins behind %d", src, one, end)
			}
			if !strings.HasPrefix(src[one.At:], tokenBytes(one)) {
				t.Fatalf("%q: %v does not stand there", src, one)
			}
			end = one.At + len(tokenBytes(one))
		}
		if end != len(src) || list[len(list)-1].Kind != impl.TkEnd {
			t.Fatalf("%q: ends with %v", src, list[len(list)-1])
		}
	}
}

func TestP11BlanksBehind(t *testing.T) {
	rnd := &dice{12}
	for range 300 {
		src, want := aSource(rnd, impl.MaxSource-10)
		for _, behind := range []string{" ", "\n", "  ", "\n\n", " \n \n   "} {
			checkRight(t, src+behind, slices.Clone(want)...)
		}
	}
}

func TestP11BlanksAhead(t *testing.T) {
	rnd := &dice{13}
	for range 300 {
		src, want := aSource(rnd, impl.MaxSource-10)
		for _, ahead := range []string{" ", "\n", "\n \n\n  "} {
			moved := slices.Clone(want)
			for i := range moved {
				moved[i].At += len(ahead)
			}
			checkRight(t, ahead+src, moved...)
		}
	}
}

func TestP11Names(t *testing.T) {
	for n := 1; n <= 40; n++ {
		for _, name := range []string{strings.Repeat("a", n), strings.Repeat("Z", n), "b" + strings.Repeat("9", n-1), "c" + strings.Repeat("0", n-1), strings.Repeat("xY7", n)[:n]} {
			if n <= 12 {
				checkRight(t, name, nameAt(0, name))
				checkRight(t, "; "+name+";", signAt(0, ";"), nameAt(2, name), signAt(2+n, ";"))
			} else {
				checkNone(t, name, 0)
				checkNone(t, "; "+name+";", 2)
				checkNone(t, "1"+name, 1)
			}
		}
	}
	checkRight(t, "12ab", numAt(0, 12), nameAt(2, "ab"))
	checkRight(t, "ab12", nameAt(0, "ab12"))
	checkRight(t, "ab12cd 3", nameAt(0, "ab12cd"), numAt(7, 3))
	checkRight(t, "0x1F", numAt(0, 0), nameAt(1, "x1F"))
	checkRight(t, "a0", nameAt(0, "a0"))
	checkRight(t, "a00", nameAt(0, "a00"))
	checkRight(t, `a"b"c`, nameAt(0, "a"), textAt(1, "b"), nameAt(4, "c"))
	checkNone(t, "a_b", 1)
	checkNone(t, "_a", 0)
	checkNone(t, "a$", 1)
	checkNone(t, "\u00e4b", 0)
	checkNone(t, "b\u00e4", 1)
}

func TestP11Numbers(t *testing.T) {
	for _, n := range []int{0, 1, 5, 9, 10, 11, 99, 100, 101, 1000000000, 1999999999, 2147483639, 2147483646, 2147483647} {
		digits := strconv.Itoa(n)
		checkRight(t, digits, numAt(0, n))
		checkRight(t, "\n"+digits+" ", numAt(1, n))
		checkRight(t, digits+"a", numAt(0, n), nameAt(len(digits), "a"))
		checkRight(t, "-"+digits, signAt(0, "-"), numAt(1, n))
		checkRight(t, digits+"."+digits, numAt(0, n), signAt(len(digits), "."), numAt(len(digits)+1, n))
		checkNone(t, "0"+digits, 0)
		checkNone(t, "a 00"+digits+" #", 2)
	}
	large := []string{"2147483648", "2147483650", "2200000000", "3000000000", "9999999999", "4294967295", "4294967296", "4294967297",
		"9223372036854775807", "9223372036854775808", "18446744073709551615", "18446744073709551616", "18446744073709551617", "36893488147419103233"}
	for n := 10; n < 790; n++ {
		large = append(large, "1"+strings.Repeat("0", n), strings.Repeat("9", n))
	}
	for _, digits := range large {
		checkNone(t, digits, 0)
		checkNone(t, "(; "+digits+";", 3)
		checkNone(t, "-"+digits, 1)
	}
	for _, digits := range []string{"00", "01", "007", "0000000000", "02147483647", "000000000000000000000001", strings.Repeat("0", 700)} {
		checkNone(t, digits, 0)
		checkNone(t, "1 "+digits, 2)
		checkNone(t, digits+"a", 0)
	}
}

func TestP11Texts(t *testing.T) {
	for n := range 100 {
		text := strings.Repeat("a b!~", n)[:n]
		src := `"` + text + `"`
		if n <= impl.MaxText {
			checkRight(t, src, textAt(0, text))
			checkRight(t, src+src+"a", textAt(0, text), textAt(n+2, text), nameAt(2*n+4, "a"))
		} else {
			checkNone(t, src, 0)
			checkNone(t, "x "+src, 2)
			checkNone(t, `""`+src, 2)
		}
		// without its end
		checkNone(t, src[:n+1], 0)
		checkNone(t, "x ="+src[:n+1], 3)
		checkNone(t, `"y"`+src[:n+1], 3)
	}
	checkRight(t, `""`, textAt(0, ""))
	checkRight(t, `""""`, textAt(0, ""), textAt(2, ""))
	checkRight(t, `"\"`, textAt(0, `\`))
	checkRight(t, `" "`, textAt(0, " "))
	checkRight(t, `"'#@"`, textAt(0, "'#@"))
	checkNone(t, `"`, 0)
	checkNone(t, `a"`, 1)
	checkNone(t, `"a" "`, 4)
	checkNone(t, `"""`, 2)
	checkNone(t, `"\""`, 3)
	checkNone(t, "\"a\nb\"", 0)
	checkNone(t, "\"a\n\"", 0)
	checkNone(t, "x\n\"\n\"", 2)
	checkNone(t, "\"a\tb\" #", 0)
}

func TestP11BytesOfTexts(t *testing.T) {
	for b := range 256 {
		one := string([]byte{byte(b)})
		for _, ahead := range []string{"", "a", strings.Repeat("z", 29)} {
			src := "(\"" + ahead + one + "\")"
			switch {
			case b == '"': // the text ends there; the one behind it does not
				checkNone(t, src, 3+len(ahead))
			case b >= 32 && b <= 126:
				checkRight(t, src, signAt(0, "("), textAt(1, ahead+one), signAt(len(src)-1, ")"))
			default:
				checkNone(t, src, 1)
			}
		}
	}
}

// alone: what a byte is by itself.
func alone(b byte, at int) ([]impl.Token, bool) {
	one := string([]byte{b})
	switch {
	case b == 32 || b == 10:
		return nil, true
	case b >= 'a' && b <= 'z', b >= 'A' && b <= 'Z':
		return []impl.Token{nameAt(at, one)}, true
	case b >= '0' && b <= '9':
		return []impl.Token{numAt(at, int(b-'0'))}, true
	case slices.Contains(signTexts(), one):
		return []impl.Token{signAt(at, one)}, true
	}
	return nil, false
}

func TestP11EveryByte(t *testing.T) {
	right := []string{"", "ab ", "12 ", "12\n", `"t"`, "==", "(", "{ }", "; \n", "abcdefghijkl ", "2147483647 ", "let x = 1;\n"}
	for b := range 256 {
		one := string([]byte{byte(b)})
		for _, ahead := range right {
			list, bad := impl.Tokens(ahead)
			if bad != -1 {
				t.Fatal(ahead, bad)
			}
			own, ok := alone(byte(b), len(ahead))
			for _, behind := range []string{"", " ", "\n;", " #", ";"} {
				src := ahead + one + behind
				switch {
				case !ok:
					checkNone(t, src, len(ahead))
				case behind == " #":
					checkNone(t, src, len(ahead)+2)
				default:
					want := append(slices.Clone(list[:len(list)-1]), own...)
					if strings.HasSuffix(behind, ";") {
						want = append(want, signAt(len(src)-1, ";"))
					}
					checkRight(t, src, want...)
				}
			}
		}
	}
}

// Right behind a token, with nothing between, a byte may belong to it.
func TestP11EveryByteRightBehind(t *testing.T) {
	for b := range 256 {
		for _, ahead := range []string{"a", "abcdefghijkl", "0", "7", "2147483647", "214748364", `""`, "=", "==", "-", "!"} {
			src := ahead + string([]byte{byte(b)})
			want, bad := wantTokens(src)
			checkTokens(t, src, want, bad)
		}
	}
}

func TestP11WhatIsNoneFirst(t *testing.T) {
	checkNone(t, "# 00 \"", 0)
	checkNone(t, "x 00 #", 2)
	checkNone(t, "x \"a # \x01", 2)
	checkNone(t, "x y\t#", 3)
	checkNone(t, "x abcdefghijklm 00", 2)
	checkNone(t, "x 2147483648 abcdefghijklm", 2)
	checkNone(t, "\n\n \r", 3)
	rnd := &dice{14}
	none := []string{"#", "\t", "\r", "\x00", "\x7f", "\x80", "\xff", "%", "@", "00", "01", "2147483648", "abcdefghijklm", "\"", "\"\n\"", "\"" + strings.Repeat("q", 31) + "\""}
	for range 1000 {
		src, _ := aSource(rnd, 600)
		for _, bad := range none {
			rest, _ := aSource(rnd, 100)
			checkNone(t, src+" "+bad+"\n"+rest, len(src)+1)
		}
	}
}

// long: a source of so many bytes that is right all over.
func long(part string, size int) string {
	whole := size / len(part)
	return strings.Repeat(part, whole) + strings.Repeat(" ", size-whole*len(part))
}

func TestP11Limits(t *testing.T) {
	for _, part := range []string{" ", "\n", ";", "==", "a ", "12 ", `"a b"`, "abcdefghijkl ", "let x = {a: 1};\n", `"` + strings.Repeat("t", 30) + `"`} {
		for _, size := range []int{0, 1, 2, 799, 800} {
			src := long(part, size)
			want, _ := wantTokens(src)
			checkTokens(t, src, want, -1)
			if len(want) != 1+strings.Count(src, part)*len(tokensOf(part)) {
				t.Errorf("%q: %d tokens of %d bytes", part, len(want), size)
			}
		}
		for _, size := range []int{801, 802, 1000, 1600, 4096, 100000} {
			checkNone(t, long(part, size), 0)
		}
	}
	checkRight(t, strings.Repeat(" ", 800))
	checkRight(t, strings.Repeat(" ", 799)+"a", nameAt(799, "a"))
	checkRight(t, strings.Repeat("\n", 770)+`"`+strings.Repeat("b", 28)+`"`, textAt(770, strings.Repeat("b", 28)))
	checkNone(t, strings.Repeat(" ", 799)+"#", 799)
	checkNone(t, strings.Repeat(" ", 799)+`"`, 799)
	checkNone(t, strings.Repeat(" ", 798)+"00", 798)
}

func tokensOf(part string) []impl.Token {
	list, _ := impl.Tokens(part)
	return list[:len(list)-1]
}

// What is none is named ahead of the length: its place is told, wherever it stands.
func TestP11TooLongWithNone(t *testing.T) {
	for _, size := range []int{801, 802, 900, 5000} {
		for _, at := range []int{0, 1, 5, 400, 798, 799, 800, 801, 899, 4999} {
			if at >= size {
				continue
			}
			for _, bad := range []string{"#", "\t", "\x00", "\xff", "\""} {
				src := strings.Repeat(" ", at) + bad + strings.Repeat(" ", size-at-1)
				checkNone(t, src, at)
				checkNone(t, strings.Repeat(";", at)+bad+strings.Repeat(";", size-at-1), at)
			}
		}
	}
	checkNone(t, strings.Repeat(" ", 795)+"abcdefghijklm", 795)
	checkNone(t, strings.Repeat(" ", 795)+"abcdefghijkl", 0)
	checkNone(t, strings.Repeat(" ", 795)+"2147483648", 795)
	checkNone(t, strings.Repeat(" ", 795)+"2147483647", 0)
	checkNone(t, strings.Repeat(" ", 799)+"00", 799)
	checkNone(t, strings.Repeat(" ", 799)+`"a`, 799)
	checkNone(t, strings.Repeat(" ", 799)+`"a"`, 0)
	checkNone(t, strings.Repeat("a", 801), 0)
	checkNone(t, " "+strings.Repeat("a", 801), 1)
	checkNone(t, " "+strings.Repeat("7", 801), 1)
	checkNone(t, "  \""+strings.Repeat("7", 801), 2)
}

func TestP11Word(t *testing.T) {
	for _, word := range wordTexts() {
		for _, kind := range []int{-1, 0, 1, 2, 3, 4, 5, math.MinInt, math.MaxInt} {
			for _, n := range []int{0, 1, -1, math.MinInt, math.MaxInt} {
				if got := impl.Word(impl.Token{Kind: kind, Text: word, N: n, At: n}); got != (kind == impl.TkName) {
					t.Error(kind, word, n, got)
				}
			}
		}
		list, _ := impl.Tokens(" " + word + " \"" + word + "\" x" + word)
		if len(list) < 3 || !impl.Word(list[0]) || impl.Word(list[1]) || impl.Word(list[2]) {
			t.Error(word, list)
		}
	}
	for _, text := range likeWords() {
		for kind := -1; kind <= 5; kind++ {
			if impl.Word(impl.Token{Kind: kind, Text: text}) {
				t.Errorf("%q of kind %d is no word", text, kind)
			}
		}
	}
}

// likeWords: all that is one letter away from a word, or two of them, or none.
func likeWords() []string {
	all := wordTexts()
	out := []string{"", " ", "x", "letif", "let if", "let ", " let", "let\n", "\"let\"", strings.Join(all, " "), strings.Join(all, ""), "prototype", "elseif", "true false", "nul", "undef"}
	for _, word := range all {
		out = append(out, strings.ToUpper(word), strings.ToUpper(word[:1])+word[1:], word+word, word+"\x00")
		for i := range word {
			out = append(out, word[:i]+word[i+1:], word[:i], word[i+1:])
			for _, b := range []byte("aeiouslntXYZ019 _\x00\xff") {
				out = append(out, word[:i]+string([]byte{b})+word[i:], word[:i]+string([]byte{b})+word[i+1:], word+string([]byte{b}))
			}
		}
	}
	return slices.DeleteFunc(out, func(text string) bool { return slices.Contains(all, text) })
}

func TestP11AllShort(t *testing.T) {
	const bytes = "aZ09 \n\"=(;#\x7f"
	var grow func(src string, more int)
	grow = func(src string, more int) {
		want, bad := wantTokens(src)
		checkTokens(t, src, want, bad)
		for i := range bytes {
			if more > 0 {
				grow(src+bytes[i:i+1], more-1)
			}
		}
	}
	grow("", 4)
}

func TestP21TokensOfAnyBytes(t *testing.T) {
	rnd := &dice{15}
	for range 3000 {
		src := make([]byte, rnd.below(60))
		for i := range src {
			src[i] = byte(rnd.below(256))
			if rnd.below(20) > 0 {
				const usual = "ab19 \n\"=({;.-+ab09 \"Zz"
				src[i] = usual[rnd.below(len(usual))]
			}
		}
		want, bad := wantTokens(string(src))
		checkTokens(t, string(src), want, bad)
	}
	for _, src := range oddTexts() {
		want, bad := wantTokens(src)
		checkTokens(t, src, want, bad)
	}
}

func TestP21TokensOfVeryLongSources(t *testing.T) {
	const size = 1 << 22
	checkNone(t, strings.Repeat("a", size), 0)
	checkNone(t, strings.Repeat("7", size), 0)
	checkNone(t, "\""+strings.Repeat("7", size), 0)
	checkNone(t, strings.Repeat("\"", size), 0)
	checkNone(t, strings.Repeat("\"", size+1), size)
	checkNone(t, strings.Repeat(" ", size), 0)
	checkNone(t, strings.Repeat(" ", size)+"#", size)
	checkNone(t, strings.Repeat("(", size), 0)
	checkNone(t, strings.Repeat("=", size+1), 0)
	checkNone(t, strings.Repeat("a ", size)+"\xff", 2*size)
}

func TestP21WordOfAnyToken(t *testing.T) {
	rnd := &dice{16}
	for _, kind := range edgeNumbers() {
		for _, n := range edgeNumbers() {
			if impl.Word(impl.Token{Kind: kind, N: n, At: n}) {
				t.Error(kind, n)
			}
		}
	}
	for range 2000 {
		text := make([]byte, rnd.below(12))
		for i := range text {
			text[i] = byte(rnd.below(256))
		}
		one := impl.Token{Kind: impl.TkName, Text: string(text), N: rnd.below(1 << 31), At: -rnd.below(1 << 31)}
		if got := impl.Word(one); got != slices.Contains(wordTexts(), string(text)) {
			t.Errorf("%v: %v", one, got)
		}
	}
	if impl.Word(impl.Token{Kind: impl.TkName, Text: strings.Repeat("let", 1<<20)}) {
		t.Error("a long text")
	}
}

func TestP21TokensAreNew(t *testing.T) {
	sources := []string{"", "let x == \"a b\"; 12", "while", "  ", "(((", "proto proto"}
	for _, src := range sources {
		want, _ := wantTokens(src)
		for range 3 {
			list, bad := impl.Tokens(src)
			if bad != -1 || !slices.Equal(list, want) {
				t.Fatalf("%q: %v %d", src, list, bad)
			}
			whole := list[:cap(list)]
			for i := range whole {
				whole[i] = impl.Token{Kind: -1, Text: "spoilt", N: -1, At: -1}
			}
			_ = append(list, impl.Token{Kind: -2, Text: "let"})
		}
	}
	for _, word := range wordTexts() {
		if !impl.Word(nameAt(0, word)) {
			t.Error(word)
		}
	}
}

// Words are made once: whoever asks first, side by side too, is told the same.
func TestP21WordsSideBySide(t *testing.T) {
	var all sync.WaitGroup
	for range 16 {
		all.Go(func() {
			for _, word := range wordTexts() {
				if !impl.Word(nameAt(3, word)) || impl.Word(nameAt(3, word+"s")) {
					t.Error(word)
				}
				if list, bad := impl.Tokens(word + " x"); bad != -1 || len(list) != 3 {
					t.Error(word, list, bad)
				}
			}
		})
	}
	all.Wait()
}
