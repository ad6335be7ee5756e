package link

import (
	"fmt"
	"reflect"
	"slices"
	"testing"

	"lantern/api"
	"lantern/classfile"
)

func refusedFiles(t *testing.T, what string, want api.Errno, wantAt int, l ...[]byte) {
	t.Helper()
	p, e, at := Files(l...)
	if p != nil || e != want || at != wantAt {
		t.Errorf("%s: program %v, error %d of file %d; want none, %d of %d", what, p != nil, e, at, want, wantAt)
	}
}

func TestFilesOfPrograms(t *testing.T) {
	for what, l := range map[string][]api.Class{
		"no files": nil,
		"one file": {class("A", "Object")},
		"a row":    row(api.MaxClasses, "Object"),
		"each":     sample(),
	} {
		p, e, at := Files(files(t, l...)...)
		if p == nil || e != api.OK || at != 0 {
			t.Errorf("%s: program %v, error %d of file %d", what, p != nil, e, at)
			continue
		}
		q := linked(t, l...)
		if !slices.Equal(p.Names(), q.Names()) {
			t.Errorf("%s: Names %q, want %q", what, p.Names(), q.Names())
		}
		for _, name := range q.Names() {
			a, _ := p.Class(name)
			b, _ := q.Class(name)
			if !classfile.Same(a, b) {
				t.Errorf("%s: Class(%q)\n got %+v\nwant %+v", what, name, a, b)
			}
			x, y := seen(p)[name], seen(q)[name]
			x.Class, y.Class = api.Class{}, api.Class{}
			if !reflect.DeepEqual(x, y) {
				t.Errorf("%s: of %q\n got %+v\nwant %+v", what, name, x, y)
			}
		}
	}
}

// badFiles are none, for one reason each.
func badFiles(t *testing.T) map[string][]byte {
	good := file(t, roomy("R"))
	turned := slices.Clone(good)
	turned[0]++
	return map[string][]byte{
		"nil":                  nil,
		"no bytes":             {},
		"a beginning":          good[:9],
		"all but the last":     good[:len(good)-1],
		"one byte more":        append(slices.Clone(good), 0),
		"another mark":         turned,
		"more than MaxFile":    make([]byte, api.MaxFile+1),
		"a text that is none":  []byte("SBC1\x00\x01\x00\x01A\x00\x00\x00\x09\x00\x00\x00\x00\x00\x00\x00\x00"),
		"a Name that is none":  []byte("SBC1\x00\x01\x00\x019\x00\x00\x00\x00\x00\x00\x00\x00\x00\x00\x00\x00"),
		"a yes that is none":   []byte("SBC1\x00\x01\x00\x01A\x00\x00\x00\x00\x07\x00\x00\x00\x00\x00\x00\x00"),
		"a pool that is great": []byte("SBC1\xff\xff"),
	}
}

func TestFilesThatAreNone(t *testing.T) {
	a, b, lost := file(t, class("A", "Object")), file(t, class("B", "A")), file(t, class("X", "None"))
	for what, bad := range badFiles(t) {
		_, want, _ := classfile.Decode(bad)
		if want == api.OK {
			t.Fatalf("%s: Decode reads it", what)
		}
		refusedFiles(t, what+" alone", want, 0, bad)
		for at := range 4 {
			l := slices.Insert([][]byte{a, b, file(t, face("I"))}, at, bad)
			refusedFiles(t, fmt.Sprintf("%s at %d", what, at), want, at, l...)
		}
		refusedFiles(t, what+" behind one that breaks a rule", want, 2, a, lost, bad)
		refusedFiles(t, what+" ahead of one that breaks a rule", want, 1, a, bad, lost)
		refusedFiles(t, what+" between two of one Name", want, 1, a, bad, a)
		many := files(t, row(api.MaxClasses+1, "Object")...)
		refusedFiles(t, what+" behind more than MaxClasses", want, len(many), append(many, bad)...)
		refusedFiles(t, what+" in the place of one of more than MaxClasses", want, 4, slices.Replace(many, 4, 5, bad)...)
		for other, worse := range badFiles(t) {
			refusedFiles(t, what+" ahead of "+other, want, 1, a, bad, b, worse)
		}
	}
}

func TestFilesThatDoNotGoTogether(t *testing.T) {
	a, b, c := file(t, class("A", "Object")), file(t, class("B", "A")), file(t, class("C", "B"))
	lost, far := file(t, class("X", "None")), file(t, class("Y", "None"))
	refusedFiles(t, "a Super that is not there", api.ErrLink, 0, b)
	refusedFiles(t, "a Super that is not there", api.ErrLink, 2, a, b, lost)
	refusedFiles(t, "the first of two", api.ErrLink, 1, a, lost, b, far)
	refusedFiles(t, "the first of two", api.ErrLink, 1, a, far, b, lost)
	refusedFiles(t, "one file twice", api.ErrLink, 0, a, b, a)
	refusedFiles(t, "one file twice, not the first", api.ErrLink, 1, a, b, c, b)
	refusedFiles(t, "one Name twice, behind one that breaks a later rule", api.ErrLink, 2, lost, a, b, c, b)
	refusedFiles(t, "two of one Name, of which the second has no Super", api.ErrLink, 1, a, b, c, file(t, class("B", "")))
	for _, g := range given() {
		refusedFiles(t, "a given class: "+g.Name, api.ErrLink, 2, a, b, file(t, g))
	}
	refusedFiles(t, "a ring", api.ErrLink, 1, append([][]byte{file(t, class("Z", "c0"))}, files(t, row(3, "c0")...)...)...)
	refusedFiles(t, "Task unanswered", api.ErrLink, 2, a, b, file(t, class("T", "B", implements("Task"))))
}

func TestFilesLimit(t *testing.T) {
	many := files(t, row(api.MaxClasses+1, "Object")...)
	refusedFiles(t, "one more than MaxClasses", api.ErrLimit, 0, many...)
	refusedFiles(t, "MaxClasses of them, which miss the last", api.ErrLink, api.MaxClasses-1, many[:api.MaxClasses]...)
	if p, e, at := Files(many[1:]...); p == nil || e != api.OK || at != 0 {
		t.Errorf("MaxClasses: %d of file %d", e, at)
	}
	lost := file(t, class("X", "None"))
	refusedFiles(t, "more than MaxClasses, which do not go together", api.ErrLimit, 0, slices.Insert(many, 7, lost)...)
	refusedFiles(t, "one file many times", api.ErrLimit, 0, slices.Repeat([][]byte{lost}, 500)...)
}
