package infer

import (
	"strconv"
	"strings"

	"usance/api"
)

const letters = 'z' - 'a' + 1 // variables that have one of their own

// Show writes a scheme.
func Show(s api.Scheme) string {
	if len(s.Params) == 0 {
		return s.Name + ": " + typeWord(s.Result)
	}
	params := make([]string, len(s.Params))
	for i, p := range s.Params {
		params[i] = typeWord(p)
	}
	return s.Name + "(" + strings.Join(params, ", ") + "): " + typeWord(s.Result)
}

// typeWord is the word of any number that stands for a type.
func typeWord(t int) string {
	switch t {
	case api.TNum:
		return "num"
	case api.TBool:
		return "bool"
	case api.TDate:
		return "date"
	case api.TCur:
		return "currency"
	case api.TContract:
		return "contract"
	}
	if t < 0 {
		return "?"
	}
	return variableWord(t - api.TVar)
}

// variableWord is the word of the i-th variable.
func variableWord(i int) string {
	if i < letters {
		return string(rune('a' + i))
	}
	return "t" + strconv.Itoa(i)
}
