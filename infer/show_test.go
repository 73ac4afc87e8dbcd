package infer_test

import (
	"math"
	"strconv"
	"strings"
	"testing"

	"usance/api"
	"usance/infer"
)

// P11.3: any scheme, of right types or not.
func TestShow(t *testing.T) {
	for want, s := range map[string]api.Scheme{
		": num":                          {},
		"f: bool":                        {Name: "f", Result: api.TBool},
		"f(date): currency":              {Name: "f", Params: []int{api.TDate}, Result: api.TCur},
		"f(num, contract): contract":     {Name: "f", Params: []int{api.TNum, api.TContract}, Result: api.TContract},
		"f(a, b, a): b":                  {Name: "f", Params: []int{api.TVar, api.TVar + 1, api.TVar}, Result: api.TVar + 1},
		"f(z, t26, t27): t100":           {Name: "f", Params: []int{api.TVar + 25, api.TVar + 26, api.TVar + 27}, Result: api.TVar + 100},
		"f(?, ?): ?":                     {Name: "f", Params: []int{-1, math.MinInt}, Result: -2},
		"module (: p, q\x00\xff: c":      {Name: "module (: p, q\x00\xff", Params: []int{}, Result: api.TVar + 2},
		"x.y(num): t9223372036854775802": {Name: "x.y", Params: []int{0}, Result: math.MaxInt},
		"f(num, bool, date, currency, contract, a): num": {Name: "f", Params: []int{0, 1, 2, 3, 4, 5}},
	} {
		if got := infer.Show(s); got != want {
			t.Errorf("%v: %q, want %q", s, got, want)
		}
	}
	for i := range 200 {
		want := "t" + strconv.Itoa(i)
		if i < 26 {
			want = "abcdefghijklmnopqrstuvwxyz"[i : i+1]
		}
		if got := infer.Show(api.Scheme{Result: api.TVar + i}); got != ": "+want {
			t.Errorf("variable %d: %q", i, got)
		}
	}
	if got := infer.Show(api.Scheme{Name: "f", Params: make([]int, 1<<18)}); got != "f(num"+strings.Repeat(", num", 1<<18-1)+"): num" {
		t.Error("many parameters", len(got))
	}
}
