package impl

import (
	"strconv"
	"strings"
)

const VaNumber = 0
const VaPiece = 1
const MaxNumber = 1000000
const MaxPieces = 20

type Value struct {
	Kind int64
	N    int64
}

func ValueOk(v Value) bool { return v.isNumber() || v.isPiece() }

func Number(n int64) Value {
	return Value{Kind: VaNumber, N: max(-MaxNumber, min(n, MaxNumber))}
}

func Added(a Value, b Value) (Value, bool) { return ofNumbers(a, b, a.plus) }

func Below(a Value, b Value) (Value, bool) { return ofNumbers(a, b, a.isLess) }

func IsNothing(v Value) bool { return v == Number(0) }

func ShowValue(v Value) string {
	if !ValueOk(v) {
		return ""
	}
	digits := strconv.FormatInt(v.N, 10)
	if v.isPiece() {
		return pieceLetter + digits
	}
	return digits
}

func ReadValue(s string) (Value, bool) {
	kind := int64(VaNumber)
	digits, isPiece := strings.CutPrefix(s, pieceLetter)
	if isPiece {
		kind = VaPiece
	}
	n, err := strconv.ParseInt(digits, 10, 64)
	v := Value{Kind: kind, N: n}
	// ParseInt reads forms that ShowValue never makes (+5, 007, -0), so the text must come back as it was.
	if err != nil || ShowValue(v) != s {
		return Value{}, false
	}
	return v, true
}

const pieceLetter = "p"

func (v Value) isNumber() bool {
	return v.Kind == VaNumber && -MaxNumber <= v.N && v.N <= MaxNumber
}

func (v Value) isPiece() bool {
	return v.Kind == VaPiece && 0 <= v.N && v.N < MaxPieces
}

func (v Value) plus(w Value) Value { return Number(v.N + w.N) }

func (v Value) isLess(w Value) Value {
	if v.N < w.N {
		return Number(1)
	}
	return Number(0)
}

// ofNumbers asks before it does: far out of range, the sum of both would wrap around.
func ofNumbers(a Value, b Value, done func(Value) Value) (Value, bool) {
	if !bothAre(Value.isNumber, a, b) {
		return Value{}, false
	}
	return done(b), true
}

func bothAre(is func(Value) bool, a Value, b Value) bool { return is(a) && is(b) }
