package values

import (
	"math/rand"
	"strings"
	"testing"

	"kiln/api"
	"kiln/flo"
)

// P11.3: the real with which a text begins.
func TestScanReal(t *testing.T) {
	point := strings.Repeat("1", api.MaxLiteral-2) + "."
	for s, want := range map[string]Tuple{
		"1.5": {Real(1.5), Int(3)}, "1.5x": {Real(1.5), Int(3)}, "1.5.5": {Real(1.5), Int(3)}, "~2.5E~1,": {Real(-0.25), Int(7)}, "3e2": {Real(300), Int(3)}, "9.9E9": {Real(9.9e9), Int(5)}, "90.09/": {Real(90.09), Int(5)}, "90.09:": {Real(90.09), Int(5)}, "007.50": {Real(7.5), Int(6)},
		" \t\n\v\f\r1.0 ": {Real(1), Int(9)}, "1.5E": {Real(1.5), Int(3)}, "1.5E~": {Real(1.5), Int(3)}, "1.5Ex": {Real(1.5), Int(3)}, "1E5.5": {Real(1e5), Int(3)}, "1.5E5E5": {Real(1.5e5), Int(5)},
		"": {Real(0), Int(0)}, " ": {Real(0), Int(0)}, "1": {Real(0), Int(0)}, "1.": {Real(0), Int(0)}, "~": {Real(0), Int(0)}, ".5": {Real(0), Int(0)}, "-1.5": {Real(0), Int(0)}, "+1.5": {Real(0), Int(0)}, "~~1.5": {Real(0), Int(0)}, "~ 1.5": {Real(0), Int(0)}, "1 .5": {Real(0), Int(0)}, "1.E5": {Real(0), Int(0)}, "1E": {Real(0), Int(0)}, "E5": {Real(0), Int(0)}, "nan": {Real(0), Int(0)}, "inf": {Real(0), Int(0)}, "x1.5": {Real(0), Int(0)}, "\xa01.5": {Real(0), Int(0)}, "\x081.5": {Real(0), Int(0)},
		"1E400": {Real(mustParse("1E400")), Int(5)}, "0.0": {Real(0), Int(3)},
		// No text of more than MaxLiteral bytes is read, but a beginning of it is, and blanks are none of these bytes.
		point + "25": {Real(mustParse(point + "2")), Int(api.MaxLiteral)}, " " + point + "25": {Real(mustParse(point + "2")), Int(api.MaxLiteral + 1)},
		strings.Repeat("1", api.MaxLiteral) + ".5": {Real(0), Int(0)}, strings.Repeat("1", api.MaxLiteral-1) + ".5": {Real(0), Int(0)},
		"1.5" + strings.Repeat("0", api.MaxLiteral): {Real(1.5), Int(api.MaxLiteral)}, "1.5E" + strings.Repeat("0", api.MaxLiteral-5) + "12": {Real(mustParse("1.5E1")), Int(api.MaxLiteral)},
		strings.Repeat(" ", api.MaxLiteral) + "2.5": {Real(2.5), Int(api.MaxLiteral + 3)},
	} {
		primCase{"realScan", -1, row(Text(s)), is(want)}.hold(t)
	}
	minus := NewState(nil, 0).Do(place(t, "realScan", -1), row(Text("~0.0"))).Val.(Tuple)
	if flo.Text(float64(minus[0].(Real))) != "~0.0" || minus[1] != Value(Int(4)) {
		t.Errorf("%v", minus)
	}
}

func mustParse(s string) float64 {
	x, e := flo.Parse(s)
	if e != api.OK {
		panic(s)
	}
	return x
}

// P11.3: of the longest beginning that Parse takes.
func TestScanRealRandom(t *testing.T) {
	r := rand.New(rand.NewSource(1))
	read := place(t, "realScan", -1)
	for range 200000 {
		b := make([]byte, r.Intn(12))
		for i := range b {
			b[i] = "0123  ~~..EEe\tx"[r.Intn(15)]
		}
		s := string(b)
		rest := strings.TrimLeft(s, "\t\n\v\f\r ")
		want := Tuple{Real(0), Int(0)}
		for n := len(rest); n > 0; n-- {
			if x, e := flo.Parse(rest[:n]); e == api.OK {
				want = Tuple{Real(x), Int(len(s) - len(rest) + n)}
				break
			}
		}
		got := NewState(nil, 0).Do(read, row(Text(s)))
		if !sameAnswer(got, is(want)) {
			t.Fatalf("%q: %v; want %v", s, got, want)
		}
	}
}
