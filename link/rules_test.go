package link

import (
	"fmt"
	"slices"
	"testing"

	"lantern/api"
)

func TestProgramsThatAre(t *testing.T) {
	fine(t, "no classes")
	fine(t, "one class", class("A", "Object"))
	fine(t, "a row", row(5, "Object")...)
	fine(t, "a row that ends at a given class", row(5, "NullEx")...)
	fine(t, "a tree", class("A", "Object"), class("B", "A"), class("C", "A"), class("D", "B"), class("E", "B"))
	fine(t, "an interface", face("I"))
	fine(t, "interfaces of interfaces", faceRow(5, "Task")...)
	fine(t, "an interface come to by two ways", face("I"), face("J", implements("I")), face("K", implements("I")), class("A", "Object", implements("J", "K", "I")))
	fine(t, "an abstract class", class("A", "Object", abstract, open("f", "()V")))
	fine(t, "an abstract class whose super is none", class("B", "A", abstract), class("A", "Object"))
	fine(t, "a class whose super is abstract", class("B", "A"), class("A", "Object", abstract))
	for _, c := range given() {
		if !c.Interface && c.Name != "Sys" {
			fine(t, "a Super that is "+c.Name, class("A", c.Name))
		}
	}
}

func TestLimit(t *testing.T) {
	l := row(api.MaxClasses, "Object")
	fine(t, "a row of MaxClasses", l...)
	slices.Reverse(l)
	fine(t, "a row of MaxClasses, turned round", l...)
	fine(t, "a row of MaxClasses interfaces", faceRow(api.MaxClasses)...)
	refused(t, "one more", api.ErrLimit, "", row(api.MaxClasses+1, "Object")...)
	refused(t, "one more, and no Super", api.ErrLimit, "", row(api.MaxClasses+1, "")...)
	refused(t, "one more, and a Name that is none", api.ErrLimit, "", append(row(api.MaxClasses, "Object"), api.Class{})...)
	refused(t, "one more, none of them a class", api.ErrLimit, "", make([]api.Class, api.MaxClasses+1)...)
	refused(t, "MaxClasses, none of them a class", api.ErrName, "", make([]api.Class, api.MaxClasses)...)
	refused(t, "many more", api.ErrLimit, "", make([]api.Class, 1000)...)
}

func TestCheckOfEach(t *testing.T) {
	long := "a23456789012345678901234567890x"
	a := class("A", "Object")
	noCode := class("B", "Object", method(api.Method{Name: "f", Desc: "()V"}))
	noField := class("F", "Object", field("x", "V", false))
	badLocals := class("L", "Object", method(api.Method{Name: "f", Desc: "()V", Code: []api.Instr{{Op: api.Return}}}))
	lost := class("X", "Y")
	refused(t, "no Name", api.ErrName, "", a, class("", "Object"))
	refused(t, "a Name that is too long", api.ErrName, long, class(long, "Object"), a)
	refused(t, "a Name that is none", api.ErrName, "a b", a, class("a b", "Object"))
	refused(t, "a Super that is no name", api.ErrName, "B", class("B", "9"), a)
	refused(t, "Implements that are no names", api.ErrName, "B", class("B", "Object", implements("Task", "")))
	refused(t, "a field of no type", api.ErrName, "F", noField)
	refused(t, "a method without code", api.ErrForm, "B", noCode, a)
	refused(t, "a method without locals", api.ErrIndex, "L", a, badLocals)
	refused(t, "the first of two, by place", api.ErrForm, "B", noCode, noField)
	refused(t, "the first of two, by place", api.ErrName, "F", noField, noCode)
	refused(t, "ahead of one that breaks a rule", api.ErrForm, "B", noCode, lost)
	refused(t, "behind one that breaks a rule", api.ErrForm, "B", lost, noCode)
	refused(t, "one of two of one Name", api.ErrIndex, "L", class("L", "Object"), badLocals)
	both := noCode
	both.Super = "Y"
	refused(t, "in one that breaks a rule", api.ErrForm, "B", both)
	many := append(row(api.MaxClasses-1, "Object"), noCode)
	refused(t, "the last of MaxClasses", api.ErrForm, "B", many...)
}

func TestRuleNames(t *testing.T) {
	a := class("A", "Object")
	refused(t, "one class twice", api.ErrLink, "A", a, a)
	refused(t, "two others of one Name", api.ErrLink, "A", a, class("A", "A"))
	refused(t, "an interface and a class of one Name", api.ErrLink, "A", face("A"), a)
	refused(t, "the last of three", api.ErrLink, "A", class("B", "Object"), a, class("C", "B"), a)
	refused(t, "two pairs, one about the other", api.ErrLink, "A", a, class("B", "Object"), class("B", "Object"), a)
	refused(t, "two pairs, one behind the other", api.ErrLink, "B", class("B", "Object"), class("B", "Object"), a, a)
	refused(t, "a pair about a given class's", api.ErrLink, "A", a, class("Sys", "Object"), a)
	for _, c := range given() {
		refused(t, "a given class's Name", api.ErrLink, c.Name, a, class(c.Name, "Object"))
		refused(t, "a given class", api.ErrLink, c.Name, c, a)
	}
	fine(t, "names of which one begins the other", a, class("AA", "A"), class("a", "AA"), class("object", "Object"), class("Objec", "Object"), class("Objects", "Object"))
}

func TestRuleSuper(t *testing.T) {
	a, i := class("A", "Object"), face("I")
	refused(t, "no Super", api.ErrLink, "B", a, class("B", ""))
	refused(t, "one that is not there", api.ErrLink, "B", a, class("B", "X"))
	refused(t, "one that is not there, by case", api.ErrLink, "B", a, class("B", "a"))
	refused(t, "an interface", api.ErrLink, "B", class("B", "I"), a, i)
	refused(t, "an interface, for an abstract class", api.ErrLink, "B", i, class("B", "I", abstract))
	refused(t, "Sys", api.ErrLink, "B", class("B", "Sys"))
	refused(t, "Sys, for an abstract class", api.ErrLink, "B", class("B", "Sys", abstract))
	refused(t, "Task", api.ErrLink, "B", class("B", "Task"))
	for _, super := range []string{"A", "I", "J", "X", "", "Throwable", "NullEx", "Sys", "Task"} {
		j := face("J")
		j.Super = super
		refused(t, fmt.Sprintf("%q, for an interface", super), api.ErrLink, "J", a, i, j)
	}
	refused(t, "one that leads to a class without a Super", api.ErrLink, "A", class("B", "A"), class("A", ""))
}

func TestRuleImplements(t *testing.T) {
	a, i := class("A", "Object"), face("I")
	refused(t, "one that is not there", api.ErrLink, "B", a, class("B", "Object", implements("X")))
	refused(t, "one of three that is not there", api.ErrLink, "B", i, class("B", "Object", abstract, implements("I", "X", "Task")))
	refused(t, "a class", api.ErrLink, "B", a, class("B", "Object", implements("A")))
	refused(t, "itself, a class", api.ErrLink, "B", class("B", "Object", implements("B")))
	refused(t, "an abstract class", api.ErrLink, "B", class("C", "Object", abstract), class("B", "Object", implements("C")))
	refused(t, "a class, for an interface", api.ErrLink, "J", a, face("J", implements("A")))
	for _, c := range given() {
		if !c.Interface {
			refused(t, "a given class: "+c.Name, api.ErrLink, "B", class("B", "Object", implements(c.Name)))
		}
	}
	refused(t, "one twice", api.ErrLink, "B", class("B", "Object", implements("I", "I")), i)
	refused(t, "one twice, not side by side", api.ErrLink, "B", class("B", "Object", abstract, implements("I", "Task", "I")), i)
	refused(t, "one twice, in an interface", api.ErrLink, "J", i, face("J", implements("I", "I")))
	fine(t, "what a super has too", i, class("A", "Object", implements("I")), class("B", "A", implements("I")))
}

func TestRuleRings(t *testing.T) {
	for n := 1; n <= api.MaxClasses; n++ {
		ring := row(n, "c0")
		refused(t, fmt.Sprintf("a ring of %d", n), api.ErrLink, "c0", ring...)
		slices.Reverse(ring)
		refused(t, fmt.Sprintf("a ring of %d, turned round", n), api.ErrLink, fmt.Sprint("c", n-1), ring...)
		fine(t, fmt.Sprintf("a row of %d", n), row(n, "Object")...)
		refused(t, fmt.Sprintf("a row of %d into its last", n), api.ErrLink, fmt.Sprint("c", n-1), row(n, fmt.Sprint("c", n-1))...)
		refused(t, fmt.Sprintf("a row of %d into its middle", n), api.ErrLink, fmt.Sprint("c", n/2), row(n, fmt.Sprint("c", n/2))...)

		refused(t, fmt.Sprintf("a ring of %d interfaces", n), api.ErrLink, "c0", faceRow(n, "c0")...)
		fine(t, fmt.Sprintf("a row of %d interfaces", n), faceRow(n)...)
		refused(t, fmt.Sprintf("a row of %d interfaces into its last", n), api.ErrLink, fmt.Sprint("c", n-1), faceRow(n, fmt.Sprint("c", n-1))...)
		refused(t, fmt.Sprintf("a row of %d interfaces into its middle", n), api.ErrLink, fmt.Sprint("c", n/2), faceRow(n, "Task", fmt.Sprint("c", n/2))...)
	}
	ring := row(2, "c0")
	refused(t, "one that leads into a ring", api.ErrLink, "c1", class("Z", "c0"), ring[1], ring[0])
	refused(t, "a class with an interface of a ring", api.ErrLink, "c0", join([]api.Class{class("Z", "Object", implements("c0"))}, faceRow(3, "c0"))...)
	refused(t, "interfaces ahead of classes", api.ErrLink, "I", face("I", implements("I")), class("A", "A"))
	refused(t, "classes ahead of interfaces", api.ErrLink, "A", class("A", "A"), face("I", implements("I")))
	refused(t, "one that leads into a ring, and has an interface of another", api.ErrLink, "I", class("Z", "A", implements("I")), face("I", implements("I")), class("A", "A"))
	refused(t, "two rings that share an interface", api.ErrLink, "I", face("K"), face("I", implements("K", "J")), face("J", implements("K", "I")), face("L", implements("L")))
}

func TestRuleMembers(t *testing.T) {
	refused(t, "a field twice", api.ErrLink, "A", class("A", "Object", field("x", "I", false), field("x", "I", false)))
	refused(t, "a field twice, of two types", api.ErrLink, "A", class("A", "Object", field("x", "I", false), field("y", "I", false), field("x", "C", false)))
	refused(t, "a field twice, one static", api.ErrLink, "A", class("A", "Object", field("x", "I", false), field("x", "I", true)))
	refused(t, "a static field twice, in an interface", api.ErrLink, "I", face("I", field("x", "I", true), field("x", "C", true)))
	refused(t, "a method twice", api.ErrLink, "A", class("A", "Object", code("f", "()V"), code("f", "()V")))
	refused(t, "a method twice, not side by side", api.ErrLink, "A", class("A", "Object", code("f", "()V"), code("g", "()V"), code("f", "()V")))
	refused(t, "a method twice, one static", api.ErrLink, "A", class("A", "Object", code("f", "()V"), static("f", "()V")))
	refused(t, "a method twice, one abstract", api.ErrLink, "A", class("A", "Object", abstract, code("f", "()V"), open("f", "()V")))
	refused(t, "an abstract method twice, in an interface", api.ErrLink, "I", face("I", open("f", "()V"), open("f", "()V")))
	refused(t, "an <init> twice", api.ErrLink, "A", class("A", "Object", code("<init>", "()V"), code("<init>", "()V")))
	refused(t, "a <clinit> twice", api.ErrLink, "A", class("A", "Object", static("<clinit>", "()V"), static("<clinit>", "()V")))
	fine(t, "a method's Name with another Desc", class("A", "Object", code("f", "()V"), code("f", "(I)V"), static("f", "()I"), static("f", "(C)V")))
	fine(t, "another method's Name with that Desc", class("A", "Object", code("f", "()V"), code("g", "()V"), code("<init>", "()V")))
	fine(t, "a field and a method of one Name", class("A", "Object", field("f", "I", false), code("f", "()V")))
	fine(t, "fields of two Names", class("A", "Object", field("x", "I", false), field("X", "I", false), field("xx", "I", true)))
	fine(t, "what a super has too", class("A", "Object", field("x", "I", false), code("f", "()V")), class("B", "A", field("x", "I", false), code("f", "()V")))
}

func TestRuleInterface(t *testing.T) {
	bare := face("I")
	bare.Abstract = false
	refused(t, "not Abstract", api.ErrLink, "I", bare)
	bare = face("I", open("f", "()V"))
	bare.Abstract = false
	refused(t, "not Abstract, with a method", api.ErrLink, "I", bare)
	refused(t, "a field that is not static", api.ErrLink, "I", face("I", field("x", "I", false)))
	refused(t, "the last of three fields", api.ErrLink, "I", face("I", field("x", "I", true), field("y", "I", true), field("z", "I", false)))
	refused(t, "a method with code", api.ErrLink, "I", face("I", code("f", "()V")))
	refused(t, "a static method", api.ErrLink, "I", face("I", static("f", "()V")))
	refused(t, "an <init>", api.ErrLink, "I", face("I", code("<init>", "()V")))
	refused(t, "the last of three methods", api.ErrLink, "I", face("I", open("f", "()V"), static("<clinit>", "()V"), code("h", "()V")))
	fine(t, "a <clinit>", face("I", static("<clinit>", "()V")))
	fine(t, "static fields, abstract methods, a <clinit>", face("I", field("x", "I", true), field("y", "LI;", true), open("f", "()V"), static("<clinit>", "()V"), open("g", "()V")))
}

func TestRuleAbstractMethods(t *testing.T) {
	refused(t, "an abstract method", api.ErrLink, "A", class("A", "Object", open("f", "()V")))
	refused(t, "the last of three methods", api.ErrLink, "A", class("A", "Object", code("f", "()V"), static("g", "()V"), open("h", "()V")))
	refused(t, "though a super has it", api.ErrLink, "B", class("A", "Object", code("f", "()V")), class("B", "A", open("f", "()V")))
	fine(t, "in an abstract class", class("A", "Object", abstract, code("f", "()V"), open("h", "()V")))
}

func TestRuleAnswers(t *testing.T) {
	f := code("f", "()V")
	i := face("I", open("f", "()V"))
	j := face("J", implements("I"))
	k := face("K", implements("J"))
	a := class("A", "Object", abstract, open("f", "()V"))
	above := []struct {
		what  string
		super string
		faces part
	}{
		{"a super's", "A", implements()},
		{"an interface's", "Object", implements("I")},
		{"an interface's interface's", "Object", implements("J")},
		{"that one's interface's", "Object", implements("K")},
		{"a super's interface's", "P", implements()},
		{"a super's interface's interface's", "Q", implements()},
		{"the second interface's", "Object", implements("E", "I")},
	}
	rest := []api.Class{i, j, k, a, face("E"),
		class("P", "Object", abstract, implements("I")), class("Q", "R", abstract), class("R", "Object", abstract, implements("K"))}
	for _, x := range above {
		for _, y := range []struct {
			what string
			by   part
			ok   bool
		}{
			{"none", implements(), false},
			{"its own", f, true},
			{"a static one", static("f", "()V"), false},
			{"one of another Desc", code("f", "(I)V"), false},
			{"one of another result", code("f", "()I"), false},
			{"one of another Name", code("F", "()V"), false},
		} {
			what := fmt.Sprintf("%s method, answered by %s", x.what, y.what)
			l := append([]api.Class{class("B", x.super, x.faces, y.by)}, rest...)
			if y.ok {
				fine(t, what, l...)
				continue
			}
			refused(t, what, api.ErrLink, "B", l...)
			l[0].Abstract = true
			fine(t, what+", in an abstract class", l...)
		}
	}
}

func TestRuleAnswersOfSupers(t *testing.T) {
	i := face("I", open("f", "()V"))
	with := func(parts ...part) []api.Class {
		return []api.Class{class("B", "A", implements("I")), class("A", "Object", parts...), i}
	}
	fine(t, "by a super's", with(code("f", "()V"))...)
	refused(t, "by a super's static one", api.ErrLink, "B", with(static("f", "()V"))...)
	refused(t, "by a super's abstract one", api.ErrLink, "B", with(abstract, open("f", "()V"))...)
	refused(t, "by a super's of another Desc", api.ErrLink, "B", with(code("f", "()I"))...)
	fine(t, "by a super's super's", class("B", "A", implements("I")), class("A", "C"), class("C", "Object", code("f", "()V")), i)
	fine(t, "by one above the abstract one", class("B", "A"), class("A", "C", abstract, open("f", "()V")), class("C", "Object", code("f", "()V")))
	fine(t, "by one below the abstract one", class("B", "A"), class("A", "C", code("f", "()V")), class("C", "Object", abstract, open("f", "()V")))
	fine(t, "by one below a static one", class("B", "A", implements("I"), code("f", "()V")), class("A", "Object", static("f", "()V")), i)
	fine(t, "by one above a static one", class("B", "A", implements("I"), static("f", "()V")), class("A", "Object", code("f", "()V")), i)
	refused(t, "by a sub's", api.ErrLink, "B", class("C", "B", code("f", "()V")), class("B", "Object", implements("I")), i)
	refused(t, "by another class's", api.ErrLink, "B", class("C", "Object", code("f", "()V")), class("B", "Object", implements("I")), i)
	fine(t, "a sub of one that answers", class("C", "B"), class("B", "Object", implements("I"), code("f", "()V")), i)
	refused(t, "Task, by none", api.ErrLink, "B", class("B", "Object", implements("Task")))
	fine(t, "Task, by run", class("B", "Object", implements("Task"), code("run", "()V")))
	refused(t, "Task, by a static run", api.ErrLink, "B", class("B", "Object", implements("Task"), static("run", "()V")))
	refused(t, "one of two methods", api.ErrLink, "B", class("B", "Object", implements("J"), code("f", "()V")), face("J", open("f", "()V"), open("g", "()V")))
	refused(t, "one of two interfaces", api.ErrLink, "B", class("B", "Object", implements("I", "Task"), code("f", "()V")), i)
	refused(t, "the first of two", api.ErrLink, "D", class("D", "C"), class("B", "C"), class("C", "Object", abstract, open("f", "()V")))
	fine(t, "a <clinit> of an interface, which is not abstract", class("B", "Object", implements("J")), face("J", static("<clinit>", "()V")))
}

// breach is classes, with Names of their own by a tag, of which one breaks one rule, and no class any other.
type breach func(tag string) (l []api.Class, name string)

// breaches of each rule, in order; none of them alone tells more than its own.
func breaches() [][]breach {
	one := func(parts ...part) breach {
		return func(tag string) ([]api.Class, string) {
			return []api.Class{class("A"+tag, "Object", parts...)}, "A" + tag
		}
	}
	oneFace := func(parts ...part) breach {
		return func(tag string) ([]api.Class, string) {
			return []api.Class{face("I"+tag, parts...)}, "I" + tag
		}
	}
	under := func(super string) part { return func(c *api.Class) { c.Super = super } }
	return [][]breach{
		{
			func(tag string) ([]api.Class, string) {
				c := class("A"+tag, "Object")
				return []api.Class{c, c}, c.Name
			},
		},
		{one(under("")), one(under("None")), one(under("Sys")), one(under("Task")), oneFace(under("Throwable"))},
		{one(implements("None")), one(implements("Object")), one(abstract, implements("Task", "Task"))},
		{
			func(tag string) ([]api.Class, string) {
				return []api.Class{class("A"+tag, "A"+tag)}, "A" + tag
			},
			func(tag string) ([]api.Class, string) {
				return []api.Class{class("A"+tag, "B"+tag), class("B"+tag, "A"+tag)}, "A" + tag
			},
			func(tag string) ([]api.Class, string) {
				return []api.Class{face("I"+tag, implements("I"+tag))}, "I" + tag
			},
		},
		{one(field("x", "I", true), field("x", "I", true)), one(code("f", "()V"), code("f", "()V"))},
		{oneFace(func(c *api.Class) { c.Fields = []api.Field{{Name: "x", Desc: "I"}} }), oneFace(code("f", "()V"))},
		{one(open("f", "()V"), code("g", "()V"))},
		{one(implements("Task"))},
	}
}

func TestOrderOfRulesInTwoClasses(t *testing.T) {
	rules := breaches()
	for i := range rules {
		for _, x := range rules[i] {
			first, name := x("1")
			refused(t, fmt.Sprintf("rule %d alone", i), api.ErrLink, name, first...)
			for j := i; j < len(rules); j++ {
				for _, y := range rules[j] {
					second, other := y("2")
					what := fmt.Sprintf("rule %d by %s, rule %d by %s", i, name, j, other)
					refused(t, what, api.ErrLink, name, join(first, second)...)
					if i == j {
						name := other
						refused(t, what+", turned round", api.ErrLink, name, join(second, first)...)
						continue
					}
					refused(t, what+", turned round", api.ErrLink, name, join(second, first)...)
				}
			}
		}
	}
}

// TestOrderOfRulesInOneClass: a class that breaks two rules is told for the first of them, ahead of one that breaks the second alone,
// and behind one that breaks the first alone.
func TestOrderOfRulesInOneClass(t *testing.T) {
	for _, x := range []struct {
		what          string
		both          api.Class
		first, second int
	}{
		{"a given Name, no Super", class("Sys", ""), 0, 1},
		{"a given Name, an interface that is none", class("MemEx", "Object", implements("None")), 0, 2},
		{"a given Name, its own Super", class("Throwable", "Throwable"), 0, 3},
		{"a given Name, a field twice", class("Task", "Object", field("x", "I", true), field("x", "I", true)), 0, 4},
		{"no Super, an interface that is none", class("B", "", implements("None")), 1, 2},
		{"no Super, a field twice", class("B", "", field("x", "I", true), field("x", "I", true)), 1, 4},
		{"no Super, an abstract method", class("B", "", open("f", "()V")), 1, 6},
		{"an interface that is none, its own Super", class("B", "B", implements("None")), 2, 3},
		{"an interface that is none, a method twice", class("B", "Object", implements("B"), code("f", "()V"), code("f", "()V")), 2, 4},
		{"its own Super, a method twice", class("B", "B", code("f", "()V"), code("f", "()V")), 3, 4},
		{"its own interface, a method with code", face("B", implements("B"), code("f", "()V")), 3, 5},
		{"its own Super, an abstract method", class("B", "B", open("f", "()V")), 3, 6},
		{"its own Super, Task unanswered", class("B", "B", implements("Task")), 3, 7},
		{"a method twice, in an interface with code", face("B", code("f", "()V"), code("f", "()V")), 4, 5},
		{"an abstract method twice", class("B", "Object", open("f", "()V"), open("f", "()V")), 4, 6},
		{"a method twice, Task unanswered", class("B", "Object", implements("Task"), code("f", "()V"), code("f", "()V")), 4, 7},
		{"an abstract method, Task unanswered", class("B", "Object", implements("Task"), open("f", "()V")), 6, 7},
	} {
		late, _ := breaches()[x.second][0]("1")
		early, name := breaches()[x.first][0]("2")
		refused(t, x.what, api.ErrLink, x.both.Name, join(late, []api.Class{x.both}, early)...)
		refused(t, x.what, api.ErrLink, name, join(late, early, []api.Class{x.both})...)
	}
}
