// Package lex orders keys, texts of any bytes, and tells of spans of them.
package lex

import (
	"strings"

	"sluicegate/api"
)

// Compare is -1, 0 or 1: a is ahead of b, equal, behind, byte by byte.
func Compare(a, b string) int {
	return strings.Compare(a, b)
}

// Shared is how many bytes at the front of both are equal.
func Shared(a, b string) int {
	n := 0
	for n < len(a) && n < len(b) && a[n] == b[n] {
		n++
	}
	return n
}

// Next is the key right behind a.
func Next(a string) string {
	return a + "\x00"
}

// Cut is the first bytes of b, as few as are behind a; there are none, if a is not ahead of b.
func Cut(a, b string) (string, bool) {
	if Compare(a, b) >= 0 {
		return "", false
	}
	// What both share is not behind a, and a, being ahead, ends there or has a lesser byte: one more byte of b is enough.
	return b[:Shared(a, b)+1], true
}

// In tells whether a span has a key.
func In(s api.Span, key string) bool {
	return Compare(s.Lo, key) <= 0 && (s.Top || Compare(key, s.Hi) < 0)
}

// Empty tells whether a span has no key.
func Empty(s api.Span) bool {
	return !s.Top && Compare(s.Hi, s.Lo) <= 0
}

// Meet is the span of the keys that both have; there is none, if they have none.
func Meet(a, b api.Span) (api.Span, bool) {
	m := api.Span{Lo: max(a.Lo, b.Lo), Hi: lower(a, b), Top: a.Top && b.Top}
	if Empty(m) {
		return api.Span{}, false
	}
	return m, true
}

// lower is the lesser Hi; one that is Top has none that counts.
func lower(a, b api.Span) string {
	switch {
	case a.Top && b.Top:
		return ""
	case a.Top:
		return b.Hi
	case b.Top:
		return a.Hi
	}
	return min(a.Hi, b.Hi)
}

// All is the span of all keys.
func All() api.Span {
	return api.Span{Top: true}
}
