package elab

import "usance/api"

const codeLen = 3 // letters of a currency

// fit: are there as many arguments as parameters, all right, of the parameters' types, and those of one variable of one type?
func fit(args []api.Val, params []int) bool {
	if len(args) != len(params) {
		return false
	}
	variables := map[int]int{} // which type each stands for
	for i, a := range args {
		want := params[i]
		if want >= api.TVar {
			if _, is := variables[want]; !is {
				variables[want] = a.Type
			}
			want = variables[want]
		}
		if a.Type != want || !isRight(a) {
			return false
		}
	}
	return true
}

// isRight: is it an argument of its type?
func isRight(a api.Val) bool {
	switch a.Type {
	case api.TNum:
		return a.S == "" && -api.MaxNum <= a.N && a.N <= api.MaxNum
	case api.TBool:
		return a.S == "" && 0 <= a.N && a.N <= 1
	case api.TDate:
		return a.S == "" && 0 <= a.N && a.N <= api.MaxDay
	case api.TCur:
		return a.N == 0 && isCurrency(a.S)
	}
	return false
}

func isCurrency(s string) bool {
	if len(s) != codeLen {
		return false
	}
	for i := range len(s) {
		if s[i] < 'A' || s[i] > 'Z' {
			return false
		}
	}
	return true
}

// given is what arguments, which are right, are as parameters.
func given(args []api.Val) []made {
	var out []made
	for _, a := range args {
		out = append(out, argument(a))
	}
	return out
}

func argument(a api.Val) made {
	switch a.Type {
	case api.TNum:
		return leaf(api.ONum, a.N, "")
	case api.TBool:
		return leaf(api.OBool, a.N, "")
	case api.TDate:
		return leaf(api.ODate, a.N, "")
	}
	return currency(a.S)
}
