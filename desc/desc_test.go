package desc

import (
	"fmt"
	"regexp"
	"slices"
	"strings"
	"testing"
	"unsafe"

	"lantern/api"
)

// The document's words, as patterns: held against the readers on every text of a few signs.
const (
	namePattern = `[a-zA-Z_][a-zA-Z_0-9]{0,29}`
	typePattern = `\[{0,4}(?:I|C|L` + namePattern + `;)`
)

var (
	nameWords   = regexp.MustCompile(`\A` + namePattern + `\z`)
	typeWords   = regexp.MustCompile(`\A` + typePattern + `\z`)
	methodWords = regexp.MustCompile(`\A\((?:` + typePattern + `){0,8}\)(?:V|` + typePattern + `)\z`)
	oneType     = regexp.MustCompile(typePattern)
)

var (
	x30 = strings.Repeat("x", 30)
	x31 = strings.Repeat("x", 31)
)

func goodNames() []string {
	return []string{"a", "Z", "_", "m", "M", "z", "A", "a9", "a0", "_0", "Z9_", "a_b", "I", "C", "V", "L", "init", x30, strings.Repeat("_", 30), "x" + strings.Repeat("9", 29)}
}

func badNames() []string {
	return []string{
		"", "9", "0a", "9a", "a-b", "-", " ", " a", "a ", "a b", "a\n", "\n", "a\x00", "\x00", "a.b", "a(", "a;", "[a", "a/b", "a$", "<a>", "<", ">",
		"é", "aé", "\xff", "a\xff", "\xc3", "世", "ａ", "９", "@", "[", "`", "{", "/", ":",
		x31, x31 + "x", strings.Repeat("x", 1000), strings.Repeat("x", 1<<16), "9" + strings.Repeat("x", 29), x30 + " ",
	}
}

// notQuiteInits are no names, and not the two that a method may have beside names.
func notQuiteInits() []string {
	return []string{"<x>", "<init", "init>", "<init>x", "x<init>", "<init>()V", "<Init>", "<INIT>", "<clinit", "<clinit>x", "<clInit>", " <init>", "<init> ", "<>", "<init><init>"}
}

func goodTypes() []string {
	l := []string{"I", "C", "[I", "[C", "[[I", "[[[C", "[[[[I", "[[[[C"}
	for _, n := range goodNames() {
		for dims := range 5 {
			l = append(l, strings.Repeat("[", dims)+"L"+n+";")
		}
	}
	return l
}

func badTypes() []string {
	l := []string{
		"", "V", "A", "i", "c", "l", "LA", "L", "L;", ";", "A;", "LA;;", "LA;I", "ILA;", "LA;LA;", "II", "CC", "IC", "I ", " I", "I\n", "I\x00",
		"[", "[[", "[[[[", "[[[[[", "[V", "[A", "[L", "[L;", "[LA", "[[[[[I", "[[[[[C", "[[[[[LA;", "[[[[[[[[I", "I[", "[I[", "[ I", "[]", "]I", "[I]",
		"L[A;", "LI", "L9;", "L A;", "LA ;", "LA.B;", "LA/B;", "L<init>;", "Lé;", "\xff", "é", "é;", "(I)V", "(", ")", "()V", strings.Repeat("[", 1<<16), strings.Repeat("[", 1<<16) + "I",
	}
	for _, n := range append(badNames(), notQuiteInits()...) {
		l = append(l, "L"+n+";", "[L"+n+";", "[[[[L"+n+";")
	}
	for _, n := range goodNames() {
		l = append(l, "L"+n, "[L"+n, "L"+n+";x", "[[[[[L"+n+";")
	}
	return l
}

// texts hands out every text of the signs of up to size bytes.
func texts(signs string, size int, yield func(s string)) {
	yield("")
	if size == 0 {
		return
	}
	for i := range len(signs) {
		texts(signs, size-1, func(s string) { yield(signs[i:i+1] + s) })
	}
}

// P2.1: names, and those of methods.
func TestName(t *testing.T) {
	for _, s := range goodNames() {
		if !Name(s) || !MethodName(s) {
			t.Errorf("%q is a name", s)
		}
	}
	for _, s := range append(badNames(), notQuiteInits()...) {
		if Name(s) || MethodName(s) {
			t.Errorf("%q is no name", s)
		}
	}
	for _, s := range []string{"<init>", "<clinit>"} {
		if Name(s) || !MethodName(s) {
			t.Errorf("%q is a method's name alone", s)
		}
	}
}

// P2.1: each byte, at the beginning, in the middle and at the end of a name.
func TestNameBytes(t *testing.T) {
	const letters = "abcdefghijklmnopqrstuvwxyzABCDEFGHIJKLMNOPQRSTUVWXYZ_"
	for i := range 256 {
		b := string([]byte{byte(i)})
		letter := strings.Contains(letters, b)
		digit := strings.Contains("0123456789", b)
		for _, c := range []struct {
			s    string
			want bool
		}{
			{b, letter}, {b + "a", letter}, {"a" + b, letter || digit}, {"a" + b + "a", letter || digit}, {b + strings.Repeat("a", 29), letter}, {strings.Repeat("a", 29) + b, letter || digit},
		} {
			if Name(c.s) != c.want || MethodName(c.s) != c.want || Type("L"+c.s+";") != c.want {
				t.Errorf("%q: %v, %v, its type %v, want %v", c.s, Name(c.s), MethodName(c.s), Type("L"+c.s+";"), c.want)
			}
		}
	}
}

// P2.1: names of each length.
func TestNameLengths(t *testing.T) {
	for n := range 70 {
		s := strings.Repeat("x", n)
		want := n >= 1 && n <= api.MaxName
		if Name(s) != want || MethodName(s) != want || Type("L"+s+";") != want || (Of(s) != "") != want {
			t.Errorf("a name of %d bytes: %v, %v, %v, %q", n, Name(s), MethodName(s), Type("L"+s+";"), Of(s))
		}
	}
}

// P2.1: types, and which of them are references.
func TestType(t *testing.T) {
	for _, s := range goodTypes() {
		ref := s != "I" && s != "C"
		if !Type(s) || Ref(s) != ref {
			t.Errorf("%q: Type %v, Ref %v, want true, %v", s, Type(s), Ref(s), ref)
		}
	}
	for _, s := range badTypes() {
		if Type(s) || Ref(s) {
			t.Errorf("%.40q: Type %v, Ref %v, want false", s, Type(s), Ref(s))
		}
	}
}

// P2.1: what a type is made of.
func TestClassElem(t *testing.T) {
	for _, s := range goodTypes() {
		class, elem, array := "", "", s[0] == '['
		if s[0] == 'L' {
			class = strings.TrimSuffix(s[1:], ";")
		}
		if array {
			elem = s[1:]
		}
		if got := Class(s); got != class {
			t.Errorf("Class(%q) is %q, want %q", s, got, class)
		}
		if got, ok := Elem(s); got != elem || ok != array {
			t.Errorf("Elem(%q) is %q, %v, want %q, %v", s, got, ok, elem, array)
		}
	}
	for _, s := range badTypes() {
		if got := Class(s); got != "" {
			t.Errorf("Class(%.40q) is %q", s, got)
		}
		if got, ok := Elem(s); got != "" || ok {
			t.Errorf("Elem(%.40q) is %q, %v", s, got, ok)
		}
	}
}

// P2.1: what is made of a type, or of a name.
func TestArrayOf(t *testing.T) {
	for _, s := range goodTypes() {
		want := "[" + s
		if strings.HasPrefix(s, "[[[[") {
			want = ""
		}
		if got := Array(s); got != want {
			t.Errorf("Array(%q) is %q, want %q", s, got, want)
		}
	}
	for _, s := range badTypes() {
		if got := Array(s); got != "" {
			t.Errorf("Array(%.40q) is %.40q", s, got)
		}
	}
	for _, s := range goodNames() {
		if got := Of(s); got != "L"+s+";" || Class(got) != s {
			t.Errorf("Of(%q) is %q, whose class is %q", s, got, Class(got))
		}
	}
	for _, s := range append(append(badNames(), notQuiteInits()...), "<init>", "<clinit>", "A;", "LA;", "A;LB", "[LA;", ";") {
		if got := Of(s); got != "" {
			t.Errorf("Of(%.40q) is %.40q", s, got)
		}
	}
}

// P2.1: every text of a few signs.
func TestAllShortTypes(t *testing.T) {
	texts("ICLVa9;[", 7, func(s string) {
		if Type(s) != typeWords.MatchString(s) {
			t.Errorf("Type(%q) is %v", s, Type(s))
		}
	})
	texts("aZ_9 <", 5, func(s string) {
		if Name(s) != nameWords.MatchString(s) {
			t.Errorf("Name(%q) is %v", s, Name(s))
		}
	})
}

func goodMethods() []string {
	l := []string{
		"()V", "()I", "()C", "()LA;", "()[I", "()[[[[LA;", "(I)V", "(C)V", "(LA;)V", "([I)V", "(II)V", "(I[LA;)V", "(I[LA;C)[I", "(LA;LB;)LC;", "([I[[I[[[I[[[[I)V", "(LV;)V", "()LV;", "([[[[LA;[[[[C)C",
		"(IIIIIII)V", "(IIIIIIII)V", "(IIIIIIII)I", "(" + strings.Repeat("[[[[LA;", 8) + ")[[[[LB;",
	}
	for _, n := range goodNames() {
		l = append(l, "(L"+n+";)V", "()L"+n+";", "(I[L"+n+";L"+n+";)[L"+n+";")
	}
	return l
}

func badMethods() []string {
	l := []string{
		"", "(", ")", "()", "V", "I", "()VV", "()V ", " ()V", "()V\n", "( )V", "() V", "( I)V", "(I )V", "(I,I)V", "(V)V", "(IV)V", "(VI)V", "([V)V", "()[V", "()v", "()X", "()II", "()IV", "()VI",
		"I)V", "()V()V", "(()V)V", "()()V", "((I)V", "(I))V", "(I", "(I)", "I", "(IV", ")V", ")(V", "(LA)V", "(LA;", "(LA", "(L;)V", "(L)V", "(L9;)V", "([)V", "([", "()[", "()L", "()L;", "()LA", "()A;", "()LA;;", "(;)V", "(A)V",
		"([[[[[I)V", "()[[[[[I", "(I[[[[[LA;)V", "(L" + x31 + ";)V", "()L" + x31 + ";", "(L<init>;)V", "()<init>", "(é)V", "(\xff)V", "()\xff", "\x00", "(\x00)V", "()V\x00",
		"(IIIIIIIII)V", "(IIIIIIIIII)V", "(IIIIIIII", "(IIIIIIIII", "(" + strings.Repeat("LA;", 9) + ")V", "(" + strings.Repeat("I", 1<<16) + ")V", strings.Repeat("(", 1<<16), "(" + strings.Repeat("[", 1<<16) + "I)V",
	}
	for _, s := range badTypes() {
		// Those that are several types one behind the other may well be parameters; none may be a result.
		if s != "V" {
			l = append(l, "()"+s)
		}
		l = append(l, s)
	}
	return slices.DeleteFunc(l, methodWords.MatchString)
}

// P2.2: a method's type is read whole, or refused with nothing beside.
func TestMethod(t *testing.T) {
	for _, s := range goodMethods() {
		wantMethod(t, s)
	}
	for _, s := range badMethods() {
		if p, r, e := Method(s); len(p) != 0 || r != "" || e != api.ErrName {
			t.Errorf("Method(%.40q) is %q, %q, %d", s, p, r, e)
		}
	}
}

// wantMethod asks of s, which is a method's type, that it is read as the patterns read it.
func wantMethod(t *testing.T, s string) {
	t.Helper()
	inside, result, _ := strings.Cut(s[1:], ")")
	want := oneType.FindAllString(inside, -1)
	p, r, e := Method(s)
	if !slices.Equal(p, want) || r != result || e != api.OK || Words(p) != len(want) {
		t.Errorf("Method(%q) is %q, %q, %d, want %q, %q, 0", s, p, r, e, want, result)
	}
	if strings.Join(p, "") != inside {
		t.Errorf("Method(%q): the parameters %q are not %q", s, p, inside)
	}
}

// P2.2: the document's example, and one by one, without the patterns.
func TestMethodExamples(t *testing.T) {
	for _, c := range []struct{ s, want string }{
		{"(I[LA;)V", `["I" "[LA;"] V 0 2`},
		{"()V", `[] V 0 0`},
		{"()[C", `[] [C 0 0`},
		{"(C)LA;", `["C"] LA; 0 1`},
		{"(LA;LB;[[I)I", `["LA;" "LB;" "[[I"] I 0 3`},
		{"(IIIIIIII)V", `["I" "I" "I" "I" "I" "I" "I" "I"] V 0 8`},
		{"(IIIIIIIII)V", `[]  6 0`},
		{"(V)V", `[]  6 0`},
		{"", `[]  6 0`},
	} {
		p, r, e := Method(c.s)
		if got := fmt.Sprintf("%q %s %d %d", p, r, e, Words(p)); got != c.want {
			t.Errorf("Method(%q): %s, want %s", c.s, got, c.want)
		}
	}
}

// P2.2: every text of a few signs, and every number of parameters.
func TestAllShortMethods(t *testing.T) {
	texts("IVLa;[()", 7, func(s string) {
		if methodWords.MatchString(s) {
			wantMethod(t, s)
		} else if p, r, e := Method(s); len(p) != 0 || r != "" || e != api.ErrName {
			t.Errorf("Method(%q) is %q, %q, %d", s, p, r, e)
		}
	})
	for n := range 20 {
		for _, s := range []string{"I", "C", "LA;", "[[[[LA;"} {
			p, _, e := Method("(" + strings.Repeat(s, n) + ")V")
			if n <= api.MaxParams && (e != api.OK || Words(p) != n) || n > api.MaxParams && (e != api.ErrName || Words(p) != 0) {
				t.Errorf("%d parameters %s: %q, %d", n, s, p, e)
			}
		}
	}
}

// P2.2: Words counts, whatever the texts are.
func TestWords(t *testing.T) {
	for _, c := range []struct {
		l    []string
		want int
	}{
		{nil, 0}, {[]string{}, 0}, {[]string{""}, 1}, {[]string{"I"}, 1}, {[]string{"C"}, 1}, {[]string{"I", "V", "x y"}, 3}, {make([]string, 9), 9}, {make([]string, 1000), 1000}, {make([]string, 2, 10), 2},
	} {
		if got := Words(c.l); got != c.want {
			t.Errorf("Words(%q) is %d, want %d", c.l, got, c.want)
		}
	}
}

// P2.2 and P2.3: each key is made, and split into its three.
func TestKeySplit(t *testing.T) {
	for _, class := range goodNames() {
		for _, name := range append(goodNames(), "<init>", "<clinit>") {
			for _, desc := range goodMethods() {
				key := Key(class, name, desc)
				if key != class+"."+name+desc {
					t.Errorf("Key(%q, %q, %q) is %q", class, name, desc, key)
				}
				if a, b, c, e := Split(key); a != class || b != name || c != desc || e != api.OK {
					t.Errorf("Split(%q) is %q, %q, %q, %d", key, a, b, c, e)
				}
			}
		}
	}
}

// P2.2: one of the three that is none, and there is no key; nor does a text that such three would make split.
func TestNoKey(t *testing.T) {
	none := func(class, name, desc string) {
		if got := Key(class, name, desc); got != "" {
			t.Errorf("Key(%.40q, %.40q, %.40q) is %.40q", class, name, desc, got)
		}
		refuse(t, class+"."+name+desc)
	}
	for _, s := range append(badNames(), notQuiteInits()...) {
		none(s, "f", "()V")
		none("A", s, "(I)V")
	}
	none("<init>", "f", "()V")
	none("<clinit>", "f", "()V")
	for _, s := range badMethods() {
		none("A", "f", s)
		none("A", "<init>", s)
	}
	none("", "", "")
}

// refuse asks that there are no three whose key it is.
func refuse(t *testing.T, key string) {
	t.Helper()
	if a, b, c, e := Split(key); a != "" || b != "" || c != "" || e != api.ErrName {
		t.Errorf("Split(%.60q) is %q, %q, %q, %d", key, a, b, c, e)
	}
}

// P2.2: keys with too few or too many of the signs between the three.
func TestSplitEdges(t *testing.T) {
	for _, s := range []string{
		"", ".", "(", ".(", "A", "A.", "A.f", "Af()V", "f()V", ".f()V", "A.()V", "A()V", "()V", "(A.f)V", "A(.f)V", "A..f()V", "A.b.f()V", "A.f.()V", ".A.f()V", "A.f()V.", "A.f().V", "A.f(LA.B;)V",
		"A.f(()V", "A.f((I)V", "A.f()()V", "A.f()V(", "A(.f()V", "A.(f()V", "(A.f()V", "A.fI)V", "A.f)V", "A.f(V", "A.f(I", "A.f()", "A.f()V ", " A.f()V", "A .f()V", "A. f()V", "A.f ()V", "A.f( )V", "A.f()V\n",
		"A.<init>", "A.<init", "A.<init>V", "<init>.f()V", "A.<x>()V", "9.f()V", "A.9()V", "LA;.f()V", "[A.f()V", "A/f()V", "A:f()V", "é.f()V", "A.é()V", "A.f(é)V", "\xff", "A.f(IIIIIIIII)V", x31 + ".f()V", "A." + x31 + "()V",
		strings.Repeat(".", 1<<16), strings.Repeat("(", 1<<16), strings.Repeat("A.f", 1<<12), strings.Repeat("A.f()V", 2),
	} {
		refuse(t, s)
	}
}

// P2.2: every text of a few signs: it splits if and only if it is the key of what it splits into.
func TestAllShortKeys(t *testing.T) {
	words := regexp.MustCompile(`\A(` + namePattern + `)\.(` + namePattern + `)(\(.*)\z`)
	texts("AI.()V", 8, func(s string) {
		m := words.FindStringSubmatch(s)
		if m == nil || !methodWords.MatchString(m[3]) {
			refuse(t, s)
			return
		}
		if a, b, c, e := Split(s); a != m[1] || b != m[2] || c != m[3] || e != api.OK || Key(a, b, c) != s {
			t.Errorf("Split(%q) is %q, %q, %q, %d", s, a, b, c, e)
		}
	})
}

// P2.3: a list that was answered and then changed changes no later answer.
func TestMethodLists(t *testing.T) {
	const s = "(I[LA;C)V"
	first, _, _ := Method(s)
	second, _, _ := Method(s)
	for i := range first {
		first[i] = "x"
	}
	_ = append(first[:0:cap(first)], "y", "y", "y")
	if want := []string{"I", "[LA;", "C"}; !slices.Equal(second, want) {
		t.Errorf("an earlier answer became %q, want %q", second, want)
	}
	wantMethod(t, s)
}

// shared tells whether two texts have a byte of memory in common.
func shared(a, b string) bool {
	if a == "" || b == "" {
		return false
	}
	from := func(s string) uintptr { return uintptr(unsafe.Pointer(unsafe.StringData(s))) }
	return from(a) < from(b)+uintptr(len(b)) && from(b) < from(a)+uintptr(len(a))
}

// P2.3: what is answered is new memory.
func TestNewMemory(t *testing.T) {
	apart := func(what string, answer string, given ...string) {
		t.Helper()
		if answer == "" {
			t.Errorf("%s answers nothing", what)
		}
		for _, g := range given {
			if shared(answer, g) {
				t.Errorf("%s: %q shares memory with %q", what, answer, g)
			}
		}
	}
	class, array, method := strings.Clone("LAbc;"), strings.Clone("[[LAbc;"), strings.Clone("(LAbc;[I)[LAbc;")
	apart("Class", Class(class), class)
	elem, _ := Elem(array)
	apart("Elem", elem, array)
	apart("Array", Array(array), array)
	apart("Of", Of(class[1:4]), class)
	params, result, _ := Method(method)
	apart("Method's result", result, method)
	for _, p := range params {
		apart("Method's parameter", p, method, result)
	}
	key := Key("Abc", "f", method)
	apart("Key", key, method)
	a, b, c, _ := Split(key)
	apart("Split's class", a, key)
	apart("Split's name", b, key, a)
	apart("Split's type", c, key, a, b)
}

// Words' list, with its room behind, stays as it is.
func TestWordsKeepsList(t *testing.T) {
	room := []string{"I", "C", "x", "y"}
	if Words(room[:2]) != 2 || !slices.Equal(room, []string{"I", "C", "x", "y"}) {
		t.Errorf("the list became %q", room)
	}
}
