package values

import (
	"math"
	"slices"
	"strings"
	"testing"

	"kiln/api"
)

// Primitives raise nothing but what api.Prims says of them, whatever they are given.
func TestCodesOfPrimitives(t *testing.T) {
	long := Text(strings.Repeat("9", api.MaxString))
	all := []Value{Int(0), Int(1), Int(-1), Int(255), Int(256), Int(api.MinFix), Int(api.MaxFix), Int(api.MaxCells + 1), Real(0), Real(math.Inf(-1)), Real(math.NaN()), Real(1e300), Real(-0.5), Text(""), Text("~12.5E3 x"), long,
		Tuple{Int(1)}, &Con{1, Int(1)}, newCell(1, Int(1)), newCell(0, Int(1)), &struct{}{}}
	for i, p := range api.Prims() {
		var rows [][]Value
		rows = append(rows, nil)
		for range p.Args {
			var more [][]Value
			for _, l := range rows {
				for _, v := range all {
					more = append(more, append(slices.Clone(l), v))
				}
			}
			rows = more
		}
		met := map[int]bool{}
		for _, l := range rows {
			a := NewState([]string{"line"}, 100).Do(i, l)
			met[a.Code] = true
			if a.Code != 0 && (!slices.Contains(p.Raises, a.Code) || a.End != 0) || a.Code == 0 && a.End == 0 && a.Val == nil {
				t.Fatalf("%s of %v: %v", p.Name, l, a)
			}
		}
		for _, code := range p.Raises {
			if !met[code] && code != api.XSize {
				t.Errorf("%s never raises %d", p.Name, code)
			}
		}
	}
}
