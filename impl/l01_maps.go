package impl

import (
	"slices"
	"strings"
)

const (
	MaxPairs = 40
	MaxText  = 2000

	maxKeyBytes = 8
	maxValBytes = 12
)

type Pair struct {
	Key string
	Val string
}

func (p Pair) sortKey() string { return p.Key }

// keyed is a row that tells by what it is sorted.
type keyed interface {
	sortKey() string
}

// sortedList holds rows by rising keys. Its methods never write into the list
// they are called on: an argument may have spare room that the caller uses.
type sortedList[T keyed] []T

func (l sortedList[T]) rises() bool {
	for i := 1; i < len(l); i++ {
		if l[i-1].sortKey() >= l[i].sortKey() {
			return false
		}
	}
	return true
}

// place tells where the key is, or where it would have to go.
func (l sortedList[T]) place(key string) (int, bool) {
	return slices.BinarySearchFunc(l, key, func(row T, key string) int {
		return strings.Compare(row.sortKey(), key)
	})
}

func (l sortedList[T]) with(row T) sortedList[T] {
	at, there := l.place(row.sortKey())
	behind := at
	if there {
		behind++
	}
	out := make(sortedList[T], 0, len(l)+1)
	out = append(out, l[:at]...)
	out = append(out, row)
	return append(out, l[behind:]...)
}

func (l sortedList[T]) without(at int) sortedList[T] {
	out := make(sortedList[T], 0, len(l))
	out = append(out, l[:at]...)
	return append(out, l[at+1:]...)
}

func MapOk(m []Pair) bool {
	if len(m) > MaxPairs {
		return false
	}
	for _, p := range m {
		if !keyOk(p.Key) || !valOk(p.Val) {
			return false
		}
	}
	return sortedList[Pair](m).rises()
}

func keyOk(key string) bool {
	if len(key) < 1 || len(key) > maxKeyBytes {
		return false
	}
	for i := range len(key) {
		if !isLetter(key[i]) && !isDigit(key[i]) {
			return false
		}
	}
	return true
}

func valOk(val string) bool {
	return printable(val, maxValBytes)
}

// printable tells whether a text has at most so many bytes, each 32 .. 126.
func printable(text string, most int) bool {
	if len(text) > most {
		return false
	}
	for i := range len(text) {
		if text[i] < 32 || text[i] > 126 {
			return false
		}
	}
	return true
}

func isLetter(c byte) bool { return 'a' <= c && c <= 'z' }

func isDigit(c byte) bool { return '0' <= c && c <= '9' }

func Get(m []Pair, key string) (string, bool) {
	if !MapOk(m) {
		return "", false
	}
	at, there := sortedList[Pair](m).place(key)
	if !there {
		return "", false
	}
	return m[at].Val, true
}

func Put(m []Pair, key string, val string) ([]Pair, bool) {
	if !MapOk(m) {
		return nil, false
	}
	out := sortedList[Pair](m).with(Pair{Key: key, Val: val})
	if !MapOk(out) {
		return nil, false
	}
	return out, true
}

func Drop(m []Pair, key string) ([]Pair, bool) {
	if !MapOk(m) {
		return nil, false
	}
	at, there := sortedList[Pair](m).place(key)
	if !there {
		return nil, false
	}
	return sortedList[Pair](m).without(at), true
}

func MapText(m []Pair) string {
	if !MapOk(m) {
		return ""
	}
	var out strings.Builder
	for _, p := range m {
		writePair(&out, "", p)
	}
	return out.String()
}

func writePair(out *strings.Builder, sign string, p Pair) {
	out.WriteString(sign)
	out.WriteString(p.Key)
	out.WriteByte('=')
	out.WriteString(p.Val)
	out.WriteByte('\n')
}

func ReadMap(s string) ([]Pair, bool) {
	var m []Pair
	for s != "" {
		line, rest, ended := strings.Cut(s, "\n")
		// A key has no =, so the first one parts it from a value that may.
		key, val, parted := strings.Cut(line, "=")
		if !ended || !parted || len(m) == MaxPairs {
			return nil, false
		}
		m = append(m, Pair{Key: key, Val: val})
		s = rest
	}
	if !MapOk(m) {
		return nil, false
	}
	return m, true
}
