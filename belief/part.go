package belief

import (
	"cresset/api"
	"cresset/weight"
)

// attempt returns what work returns, or the error with which it panics: in this package nothing panics with anything else.
func attempt[T any](work func() T) (result T, e api.Errno) {
	defer func() {
		if refusal, ok := recover().(api.Errno); ok {
			e = refusal
		}
	}()
	return work(), api.OK
}

// must returns a result, and panics if there is an error beside it.
func must[T any](result T, e api.Errno) T {
	if e != api.OK {
		panic(e)
	}
	return result
}

// deep returns p, and panics if it has more digits than a mass may have.
func deep(p api.Part) api.Part {
	if !isShort(p, api.MaxDeep) {
		panic(api.ErrRange)
	}
	return p
}

// isShort reports whether both numbers of p have at most so many digits.
func isShort(p api.Part, digits int) bool {
	return len(p.Num) <= digits && len(p.Den) <= digits
}

func zero() api.Part {
	return api.Part{Num: "0", Den: "1"}
}

func one() api.Part {
	return api.Part{Num: "1", Den: "1"}
}

func plus(a, b api.Part) api.Part {
	return must(weight.Add(a, b))
}

func times(a, b api.Part) api.Part {
	return must(weight.Mul(a, b))
}

func over(a, b api.Part) api.Part {
	return must(weight.Div(a, b))
}

// total returns a sum, added one after another. (Sum of layer 1 takes no list as long as one of masses can be.)
func total(l []api.Part) api.Part {
	sum := zero()
	for _, p := range l {
		sum = plus(sum, p)
	}
	return sum
}
