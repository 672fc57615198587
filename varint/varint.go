// Package varint is layer 1: numbers, texts and lists as bytes, each in one way alone. See shared/doc/01-varint.md.
package varint

import (
	"strings"

	"surmise/api"
)

const (
	digitBits = 7
	more      = 1 << digitBits // the base of the digits, and the bit of a digit behind which another one stands
	maxDigits = 10             // a number folded to 64 bits has no more
	maxTop    = 1              // the tenth digit: nine of them leave one bit
)

// Number lays a number.
func Number(n int) string {
	rest := fold(n)
	laid := make([]byte, 0, maxDigits)
	for rest >= more {
		laid = append(laid, byte(rest%more)|more)
		rest /= more
	}
	return string(append(laid, byte(rest)))
}

// Text lays a text.
func Text(s string) (string, api.Errno) {
	if len(s) > api.MaxText {
		return "", api.ErrBig
	}
	return Number(len(s)) + s, api.OK
}

// Numbers lays numbers.
func Numbers(l []int) (string, api.Errno) {
	return layList(l, func(n int) (string, api.Errno) { return Number(n), api.OK })
}

// Texts lays texts.
func Texts(l []string) (string, api.Errno) {
	return layList(l, Text)
}

// ReadNumber reads a number.
func ReadNumber(s string, at int) (int, int, api.Errno) {
	if at < 0 || at > len(s) {
		return 0, 0, api.ErrRange
	}
	var folded uint64
	for i := at; i < len(s); i++ {
		digit, place := s[i], i-at
		if place == maxDigits-1 && digit > maxTop {
			return 0, 0, api.ErrForm
		}
		folded |= uint64(digit%more) << (place * digitBits)
		if digit >= more {
			continue
		}
		if digit == 0 && place > 0 {
			return 0, 0, api.ErrForm
		}
		return unfold(folded), i + 1, api.OK
	}
	return 0, 0, api.ErrShort
}

// ReadText reads a text.
func ReadText(s string, at int) (string, int, api.Errno) {
	length, start, e := readCount(s, at, api.MaxText)
	if e != api.OK {
		return "", 0, e
	}
	if length > len(s)-start {
		return "", 0, api.ErrShort
	}
	// A piece of s would be no new memory, and keep all of s alive.
	return strings.Clone(s[start : start+length]), start + length, api.OK
}

// ReadNumbers reads numbers.
func ReadNumbers(s string, at int) ([]int, int, api.Errno) {
	return readList(s, at, func(at int) (int, int, api.Errno) { return ReadNumber(s, at) })
}

// ReadTexts reads texts.
func ReadTexts(s string, at int) ([]string, int, api.Errno) {
	return readList(s, at, func(at int) (string, int, api.Errno) { return ReadText(s, at) })
}

// fold puts 0, -1, 1, -2 .. at 0, 1, 2, 3 ..; the sums are made so that none leaves its type.
func fold(n int) uint64 {
	if n < 0 {
		return uint64(-(n+1))*2 + 1
	}
	return uint64(n) * 2
}

// unfold is fold's way back.
func unfold(folded uint64) int {
	half := int(folded / 2)
	if folded%2 == 1 {
		return -half - 1
	}
	return half
}

// layList lays how many items there are, and each as layItem does.
func layList[T any](items []T, layItem func(T) (string, api.Errno)) (string, api.Errno) {
	if len(items) > api.MaxList {
		return "", api.ErrBig
	}
	var laid strings.Builder
	laid.WriteString(Number(len(items)))
	for _, item := range items {
		part, e := layItem(item)
		if e != api.OK {
			return "", e
		}
		laid.WriteString(part)
	}
	return laid.String(), api.OK
}

// readList reads how many items there are, and each as readItem does at its place.
func readList[T any](s string, at int, readItem func(at int) (T, int, api.Errno)) ([]T, int, api.Errno) {
	count, next, e := readCount(s, at, api.MaxList)
	if e != api.OK {
		return nil, 0, e
	}
	items := make([]T, count)
	for i := range items {
		if items[i], next, e = readItem(next); e != api.OK {
			return nil, 0, e
		}
	}
	return items, next, api.OK
}

// readCount reads a number that says how many follow: at most as many as the limit.
func readCount(s string, at, limit int) (int, int, api.Errno) {
	count, next, e := ReadNumber(s, at)
	switch {
	case e != api.OK:
		return 0, 0, e
	case count < 0:
		return 0, 0, api.ErrForm
	case count > limit:
		return 0, 0, api.ErrBig
	}
	return count, next, api.OK
}
