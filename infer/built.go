package infer

import "usance/api"

// builtIn are the schemes of what every module knows, in the chapter's order.
func builtIn() []api.Scheme {
	const number, truth, day, currency, contract, free = api.TNum, api.TBool, api.TDate, api.TCur, api.TContract, api.TVar
	return []api.Scheme{
		{Name: "now", Result: day},
		{Name: "zero", Result: contract},
		{Name: "one", Params: []int{currency}, Result: contract},
		{Name: "give", Params: []int{contract}, Result: contract},
		{Name: "scale", Params: []int{number, contract}, Result: contract},
		{Name: "both", Params: []int{contract, contract}, Result: contract},
		{Name: "at", Params: []int{day, contract}, Result: contract},
		{Name: "when", Params: []int{day, truth, contract}, Result: contract},
		{Name: "ago", Params: []int{number, free}, Result: free},
		{Name: "plus", Params: []int{day, number}, Result: day},
		{Name: "months", Params: []int{day, number}, Result: day},
		{Name: "years", Params: []int{day, day}, Result: number},
		{Name: "years30", Params: []int{day, day}, Result: number},
		{Name: "before", Params: []int{day, day}, Result: truth},
	}
}

// formScheme is the scheme that a node which is neither a Name nor a Call uses: its kids are the arguments.
func formScheme(n api.Node) api.Scheme {
	switch n.Kind {
	case api.NBool:
		return api.Scheme{Result: api.TBool}
	case api.NDate:
		return api.Scheme{Result: api.TDate}
	case api.NCur:
		return api.Scheme{Result: api.TCur}
	case api.NUnary:
		return unaryScheme(n.Text)
	case api.NBinary:
		return binaryScheme(n.Text)
	case api.NIf:
		return api.Scheme{Params: []int{api.TBool, api.TVar, api.TVar}, Result: api.TVar}
	case api.NPick:
		return api.Scheme{Params: []int{api.TDate, api.TContract, api.TContract}, Result: api.TContract}
	}
	return api.Scheme{Result: api.TNum} // Num, Feed
}

func unaryScheme(sign string) api.Scheme {
	if sign == "not" {
		return api.Scheme{Params: []int{api.TBool}, Result: api.TBool}
	}
	return api.Scheme{Params: []int{api.TNum}, Result: api.TNum}
}

func binaryScheme(sign string) api.Scheme {
	switch sign {
	case "or", "and":
		return api.Scheme{Params: []int{api.TBool, api.TBool}, Result: api.TBool}
	case "<", "<=", "=":
		return api.Scheme{Params: []int{api.TNum, api.TNum}, Result: api.TBool}
	}
	return api.Scheme{Params: []int{api.TNum, api.TNum}, Result: api.TNum}
}
