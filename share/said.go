package share

import "cresset/api"

// CheckSaid reports whether a statement is valid.
func CheckSaid(s api.Said) bool {
	return isCentre(s.Centre) && isBetween(1, s.Number, api.MaxSaid) && isBetween(0, s.Back, s.Number-1) &&
		(statesSomething(s) || takesBackOnly(s))
}

func statesSomething(s api.Said) bool {
	return isName(s.Key) && isValue(s.Value) && isBetween(0, s.Time, api.MaxTime) && isBetween(0, s.Trust, api.Whole)
}

func takesBackOnly(s api.Said) bool {
	return s == api.Said{Centre: s.Centre, Number: s.Number, Back: s.Back} && s.Back != 0
}

func isCentre(n int) bool {
	return isBetween(1, n, api.MaxCentres)
}

// isName reports whether s is a name.
func isName(s string) bool {
	return isText(s, api.MaxName, isOfName) && isLetter(s[0])
}

// isValue reports whether s is a value.
func isValue(s string) bool {
	return isText(s, api.MaxValue, isOfValue)
}

// isText reports whether s has 1 to most bytes, and all of them belong to it.
func isText(s string, most int, belongs func(byte) bool) bool {
	if !isBetween(1, len(s), most) {
		return false
	}
	for i := range len(s) {
		if !belongs(s[i]) {
			return false
		}
	}
	return true
}

func isOfName(b byte) bool {
	return isLetter(b) || '0' <= b && b <= '9' || b == '-'
}

func isOfValue(b byte) bool {
	return ' ' <= b && b <= '~'
}

func isLetter(b byte) bool {
	return 'a' <= b && b <= 'z'
}

func isBetween(low, n, high int) bool {
	return low <= n && n <= high
}
