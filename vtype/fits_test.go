package vtype

import (
	"strings"
	"testing"
)

// P11.1: each kind in each other: of each type (the row) all that it fits.
func TestFits(t *testing.T) {
	p := linked(t, sample()...)
	rows := map[string]string{
		"T":         "T",
		"I":         "T I",
		"C":         "T C",
		"N":         "T N LLeaf; LMid; LBase; LLone; LF; LG; LObject; [I [C [LLeaf; [LBase; [LF; [LObject; [[I [[LLeaf;",
		"LLeaf;":    "T LLeaf; LMid; LBase; LF; LObject;",
		"LMid;":     "T LMid; LBase; LF; LObject;",
		"LBase;":    "T LBase; LObject;",
		"LLone;":    "T LLone; LObject;",
		"LF;":       "T LF; LObject;",
		"LG;":       "T LG; LF; LObject;",
		"LObject;":  "T LObject;",
		"[I":        "T [I LObject;",
		"[C":        "T [C LObject;",
		"[LLeaf;":   "T [LLeaf; [LBase; [LF; [LObject; LObject;",
		"[LBase;":   "T [LBase; [LObject; LObject;",
		"[LF;":      "T [LF; [LObject; LObject;",
		"[LObject;": "T [LObject; LObject;",
		"[[I":       "T [[I [LObject; LObject;",
		"[[LLeaf;":  "T [[LLeaf; [LObject; LObject;",
		"U1:LLeaf;": "T U1:LLeaf;",
		"U2:LLeaf;": "T U2:LLeaf;",
		"U1:LMid;":  "T U1:LMid;",
		"U1:LF;":    "T U1:LF;",
	}
	for a := range rows {
		for b := range rows {
			if got, want := Fits(p, a, b), within(rows[a], b); got != want {
				t.Errorf("Fits(%q, %q) is %v", a, b, got)
			}
		}
	}
}

// within tells whether it is one of a text's words.
func within(words, s string) bool { return strings.Contains(" "+words+" ", " "+s+" ") }

// P11.1: one that may not be fits nothing, and nothing fits it: not T, not null, not itself.
func TestFitsStrangers(t *testing.T) {
	p := linked(t, sample()...)
	for _, q := range strangeTypes() {
		for _, s := range []string{q, "", "V", "LQ;", "T", "I", "C", "N", "LObject;", "LLeaf;", "[I", "[LObject;", "U1:LLeaf;", "U1:LQ;"} {
			if Fits(p, q, s) || Fits(p, s, q) {
				t.Errorf("%.60q may not be, but %v: it fits %q, %v: that fits it", q, Fits(p, q, s), s, Fits(p, s, q))
			}
		}
	}
}

// P11.1: null fits each reference type, and no reference type fits it.
func TestFitsNull(t *testing.T) {
	p := linked(t, sample()...)
	for _, s := range refsOf(p) {
		if !Fits(p, "N", s) || Fits(p, s, "N") {
			t.Errorf("N fits %q: %v, it fits N: %v", s, Fits(p, "N", s), Fits(p, s, "N"))
		}
	}
	for _, s := range madesOf(p) {
		if Fits(p, "N", s) || Fits(p, s, "N") {
			t.Errorf("N fits %q: %v, it fits N: %v", s, Fits(p, "N", s), Fits(p, s, "N"))
		}
	}
}

// P11.1: all fit T, and T fits itself alone.
func TestFitsTop(t *testing.T) {
	p := linked(t, sample()...)
	for _, s := range typesOf(p) {
		if !Fits(p, s, "T") || Fits(p, "T", s) != (s == "T") {
			t.Errorf("%q fits T: %v, T fits it: %v", s, Fits(p, s, "T"), Fits(p, "T", s))
		}
	}
}

// P11.1: a made type fits itself and T alone: not another place's, nor another class's, nor what it will be.
func TestFitsMade(t *testing.T) {
	p := linked(t, sample()...)
	l := typesOf(p)
	for _, a := range madesOf(p) {
		for _, b := range l {
			if got, want := Fits(p, a, b), a == b || b == "T"; got != want {
				t.Errorf("Fits(%q, %q) is %v", a, b, got)
			}
			if got, want := Fits(p, b, a), a == b; got != want {
				t.Errorf("Fits(%q, %q) is %v", b, a, got)
			}
		}
	}
}
