package lex_test

import (
	"bytes"
	"strings"
	"testing"

	"sluicegate/api"
	"sluicegate/lex"
)

// letters are bytes at the ends of the range, in its midst where signs change, and one between.
var letters = []byte{0, 'a', 0x7f, 0x80, 0xff}

// texts tells all texts of some letters, up to a length.
func texts(of []byte, most int) []string {
	all, last := []string{""}, []string{""}
	for range most {
		var next []string
		for _, s := range last {
			for _, b := range of {
				next = append(next, s+string([]byte{b}))
			}
		}
		all, last = append(all, next...), next
	}
	return all
}

// spans tells all spans with those ends, upside-down ones and Top ones with a Hi, too.
func spans(ends []string) []api.Span {
	var all []api.Span
	for _, lo := range ends {
		for _, hi := range ends {
			all = append(all, api.Span{Lo: lo, Hi: hi}, api.Span{Lo: lo, Hi: hi, Top: true})
		}
	}
	return all
}

// stand is the order as the document words it.
func stand(a, b string) int {
	for i := 0; i < len(a) && i < len(b); i++ {
		if a[i] < b[i] {
			return -1
		}
		if a[i] > b[i] {
			return 1
		}
	}
	return min(max(len(a)-len(b), -1), 1)
}

// has tells whether a span has a key, as the document words it.
func has(s api.Span, key string) bool {
	return stand(key, s.Lo) >= 0 && (s.Top || stand(key, s.Hi) < 0)
}

func TestCompare(t *testing.T) {
	for _, x := range []struct {
		a, b string
		want int
	}{
		{"", "", 0}, {"", "\x00", -1}, {"\x00", "", 1}, {"a", "a", 0}, {"a", "ab", -1}, {"ab", "a", 1},
		{"ab", "b", -1}, {"b", "ab", 1}, {"a\x00", "a", 1}, {"a\x00b", "a\x00c", -1}, {"Z", "a", -1},
		{"\x7f", "\x80", -1}, {"\xff", "\xfe\xff", 1}, {"\xc3\xa9", "\xc3", 1}, {"10", "9", -1},
		{strings.Repeat("k", 5000) + "a", strings.Repeat("k", 5000) + "b", -1},
	} {
		if got := lex.Compare(x.a, x.b); got != x.want {
			t.Errorf("Compare(%q, %q) = %d, not %d", x.a, x.b, got, x.want)
		}
	}
	all := texts(letters, 3)
	for _, a := range all {
		for _, b := range all {
			if got := lex.Compare(a, b); got != stand(a, b) || got != bytes.Compare([]byte(a), []byte(b)) {
				t.Fatalf("Compare(%q, %q) = %d", a, b, got)
			}
		}
	}
}

func TestShared(t *testing.T) {
	for _, x := range []struct {
		a, b string
		want int
	}{
		{"", "", 0}, {"", "a", 0}, {"a", "", 0}, {"a", "a", 1}, {"abc", "abx", 2}, {"ab", "abc", 2}, {"abc", "ab", 2},
		{"abc", "xbc", 0}, {"axc", "ayc", 1}, {"\x00\x00", "\x00", 1}, {"\xc3\xa9", "\xc3\xa8", 1},
		{strings.Repeat("k", 5000) + "a", strings.Repeat("k", 5000) + "b", 5000},
	} {
		if got := lex.Shared(x.a, x.b); got != x.want {
			t.Errorf("Shared(%q, %q) = %d, not %d", x.a, x.b, got, x.want)
		}
	}
	all := texts(letters, 3)
	for _, a := range all {
		for _, b := range all {
			n := lex.Shared(a, b)
			if n < 0 || n > len(a) || n > len(b) || a[:n] != b[:n] || n < len(a) && n < len(b) && a[n] == b[n] {
				t.Fatalf("Shared(%q, %q) = %d", a, b, n)
			}
		}
	}
}

func TestNext(t *testing.T) {
	for _, a := range []string{"", "a", "a\x00", "\xff", "ab\xff\xff"} {
		if got, want := lex.Next(a), string(append([]byte(a), 0)); got != want {
			t.Errorf("Next(%q) = %q, not %q", a, got, want)
		}
	}
}

func TestCut(t *testing.T) {
	for _, x := range []struct {
		a, b, want string
		ok         bool
	}{
		{"abc", "abx", "abx", true}, {"ab", "b", "b", true}, {"a", "abc", "ab", true}, {"", "x", "x", true},
		{"", "\x00\x00", "\x00", true}, {"a", "a\x00\x00", "a\x00", true}, {"abc", "abxyz", "abx", true},
		{"a\x7f", "a\x80z", "a\x80", true}, {"azzzz", "bcd", "b", true},
		{"", "", "", false}, {"b", "b", "", false}, {"b", "a", "", false}, {"ab", "a", "", false}, {"a", "", "", false},
		{"\x80", "\x7f", "", false},
	} {
		if got, ok := lex.Cut(x.a, x.b); got != x.want || ok != x.ok {
			t.Errorf("Cut(%q, %q) = %q, %v, not %q, %v", x.a, x.b, got, ok, x.want, x.ok)
		}
	}
	all := texts(letters, 3)
	for _, a := range all {
		for _, b := range all {
			want, ok := "", false
			for n := 1; n <= len(b) && !ok && stand(a, b) < 0; n++ {
				if stand(b[:n], a) > 0 {
					want, ok = b[:n], true
				}
			}
			if got, told := lex.Cut(a, b); got != want || told != ok {
				t.Fatalf("Cut(%q, %q) = %q, %v, not %q, %v", a, b, got, told, want, ok)
			}
		}
	}
}

func TestInAndEmpty(t *testing.T) {
	for _, x := range []struct {
		s       api.Span
		in, out []string
	}{
		{api.Span{Lo: "b", Hi: "d"}, []string{"b", "b\x00", "c", "c\xff"}, []string{"", "a\xff", "d", "d\x00", "e"}},
		{api.Span{Lo: "b", Top: true}, []string{"b", "c", "\xff\xff"}, []string{"", "a", "a\xff"}},
		{api.Span{Lo: "b", Hi: "a", Top: true}, []string{"b", "c", "\xff"}, []string{"", "a", "a\xff"}},
		{api.Span{Hi: "\x00"}, []string{""}, []string{"\x00", "a"}},
		{api.Span{}, nil, []string{"", "\x00", "a"}},
		{api.Span{Lo: "b", Hi: "b"}, nil, []string{"a", "b", "b\x00"}},
		{api.Span{Lo: "d", Hi: "b"}, nil, []string{"a", "b", "c", "d", "e"}},
		{api.Span{Lo: "\x7f", Hi: "\x81"}, []string{"\x7f", "\x80"}, []string{"a", "\x81", "\xff"}},
	} {
		for _, key := range x.in {
			if !lex.In(x.s, key) {
				t.Errorf("%#v has %q", x.s, key)
			}
		}
		for _, key := range x.out {
			if lex.In(x.s, key) {
				t.Errorf("%#v hasn't %q", x.s, key)
			}
		}
		if got := lex.Empty(x.s); got != (x.in == nil) {
			t.Errorf("Empty(%#v) = %v", x.s, got)
		}
	}
	keys := texts(letters, 2)
	for _, s := range spans(keys) {
		some := false
		for _, key := range keys {
			if lex.In(s, key) != has(s, key) {
				t.Fatalf("In(%#v, %q)", s, key)
			}
			some = some || has(s, key)
		}
		if lex.Empty(s) == some {
			t.Fatalf("Empty(%#v) = %v", s, some)
		}
	}
}

func TestAll(t *testing.T) {
	if lex.All() != (api.Span{Lo: "", Hi: "", Top: true}) || lex.Empty(lex.All()) {
		t.Error(lex.All())
	}
	for _, key := range texts(letters, 3) {
		if !lex.In(lex.All(), key) {
			t.Fatalf("All hasn't %q", key)
		}
	}
}

func TestMeet(t *testing.T) {
	from := func(lo string) api.Span { return api.Span{Lo: lo, Top: true} }
	below := func(lo, hi string) api.Span { return api.Span{Lo: lo, Hi: hi} }
	none := api.Span{}
	for _, x := range []struct {
		a, b, want api.Span
		ok         bool
	}{
		{below("a", "c"), from("b"), below("b", "c"), true},
		{below("a", "c"), below("b", "d"), below("b", "c"), true},
		{below("a", "d"), below("b", "c"), below("b", "c"), true},
		{from("a"), from("b"), from("b"), true},
		{api.Span{Lo: "a", Hi: "x", Top: true}, api.Span{Hi: "y", Top: true}, from("a"), true},
		{api.Span{Lo: "a", Hi: "b", Top: true}, below("", "c"), below("a", "c"), true},
		{lex.All(), lex.All(), lex.All(), true},
		{lex.All(), below("a", "b"), below("a", "b"), true},
		{below("a", "b"), below("a", "a\x00"), below("a", "a\x00"), true},
		{below("a", "b"), below("b", "c"), none, false},
		{below("a", "b"), from("b"), none, false},
		{below("c", "d"), below("a", "b"), none, false},
		{below("b", "b"), lex.All(), none, false},
		{below("c", "a"), from("b"), none, false},
		{none, none, none, false},
		{none, lex.All(), none, false},
	} {
		if got, ok := lex.Meet(x.a, x.b); got != x.want || ok != x.ok {
			t.Errorf("Meet(%#v, %#v) = %#v, %v, not %#v, %v", x.a, x.b, got, ok, x.want, x.ok)
		}
		if got, ok := lex.Meet(x.b, x.a); got != x.want || ok != x.ok {
			t.Errorf("Meet(%#v, %#v) = %#v, %v, not %#v, %v", x.b, x.a, got, ok, x.want, x.ok)
		}
	}
}

// TestMeetHasTheKeysOfBoth goes through all small spans; a span that has a key has its Lo, and so one of keys.
func TestMeetHasTheKeysOfBoth(t *testing.T) {
	keys := texts([]byte{0, 'a', 0xff}, 2)
	all := spans(keys)
	for _, a := range all {
		for _, b := range all {
			m, ok := lex.Meet(a, b)
			some := false
			for _, key := range keys {
				both := has(a, key) && has(b, key)
				some = some || both
				if both != (ok && has(m, key)) {
					t.Fatalf("Meet(%#v, %#v) = %#v, %v, at %q", a, b, m, ok, key)
				}
			}
			if ok != some || !ok && m != (api.Span{}) || m.Top && m.Hi != "" {
				t.Fatalf("Meet(%#v, %#v) = %#v, %v", a, b, m, ok)
			}
			if ok && (stand(m.Lo, a.Lo) < 0 || stand(m.Lo, b.Lo) < 0 || m.Lo != a.Lo && m.Lo != b.Lo) {
				t.Fatalf("Meet(%#v, %#v) = %#v: Lo", a, b, m)
			}
		}
	}
}

func TestOneRow(t *testing.T) {
	all := texts([]byte{0, 'a', 0xff}, 3)
	for _, a := range all {
		for _, b := range all {
			ab := lex.Compare(a, b)
			if ab != -lex.Compare(b, a) || (ab == 0) != (a == b) {
				t.Fatalf("%q and %q stand in no row", a, b)
			}
			for _, c := range all {
				if ab <= 0 && lex.Compare(b, c) <= 0 && lex.Compare(a, c) > 0 {
					t.Fatalf("%q, %q, %q stand in no row", a, b, c)
				}
			}
		}
	}
}

func TestNoneBetweenAKeyAndItsNext(t *testing.T) {
	all := texts([]byte{0, 'a', 0xff}, 4)
	for _, a := range all {
		next := lex.Next(a)
		if lex.Compare(a, next) != -1 {
			t.Fatalf("Next(%q) = %q is not behind", a, next)
		}
		for _, key := range all {
			if lex.Compare(a, key) < 0 && lex.Compare(key, next) < 0 {
				t.Fatalf("%q is between %q and its Next", key, a)
			}
		}
	}
}

func TestWhereACutStands(t *testing.T) {
	all := texts(letters, 3)
	for _, a := range all {
		for _, b := range all {
			cut, ok := lex.Cut(a, b)
			if ok != (lex.Compare(a, b) < 0) {
				t.Fatalf("Cut(%q, %q): %v", a, b, ok)
			}
			if ok && (lex.Compare(a, cut) >= 0 || lex.Compare(cut, b) > 0 || len(cut) > len(b)) {
				t.Fatalf("Cut(%q, %q) = %q", a, b, cut)
			}
		}
	}
}
