package match

import (
	"slices"
	"strconv"
	"strings"

	"kiln/api"
)

// Shapes, written short.

func hInt() api.Shape             { return api.Shape{Kind: api.HInt} }
func hStr() api.Shape             { return api.Shape{Kind: api.HStr} }
func hRec(args ...int) api.Shape  { return api.Shape{Kind: api.HRec, Args: args} }
func hData(args ...int) api.Shape { return api.Shape{Kind: api.HData, Args: args} }
func hExn(args ...int) api.Shape  { return api.Shape{Kind: api.HExn, Args: args} }

// Values, written short.

func wInt(n int64) api.Datum                  { return api.Datum{Kind: api.WInt, Int: n} }
func wStr(s string) api.Datum                 { return api.Datum{Kind: api.WStr, Text: s} }
func wRec(args ...api.Datum) api.Datum        { return api.Datum{Kind: api.WRec, Args: args} }
func wCon(n int, args ...api.Datum) api.Datum { return api.Datum{Kind: api.WCon, N: n, Args: args} }
func wExn(n int, args ...api.Datum) api.Datum { return api.Datum{Kind: api.WExn, N: n, Args: args} }
func wList(l ...int64) api.Datum              { return wTail(wCon(0), l...) }
func wTail(end api.Datum, l ...int64) api.Datum {
	for _, n := range slices.Backward(l) {
		end = wCon(1, wRec(wInt(n), end))
	}
	return end
}

// desk is a match that is written row by row.
type desk struct{ api.Match }

// newDesk is a match without rows, for the first one of some shapes.
func newDesk(shapes ...api.Shape) *desk { return &desk{api.Match{Shapes: shapes}} }

// listDesk is one for lists of ints.
func listDesk() *desk { return newDesk(hData(-1, 1), hRec(2, 0), hInt()) }

func (d *desk) put(p api.Pat) int {
	d.Pats = append(d.Pats, p)
	return len(d.Pats) - 1
}

func (d *desk) any(args ...int) int         { return d.put(api.Pat{Kind: api.QAny, Args: args}) }
func (d *desk) bind(n int, args ...int) int { return d.put(api.Pat{Kind: api.QBind, N: n, Args: args}) }
func (d *desk) int(n int64) int             { return d.put(api.Pat{Kind: api.QInt, Int: n}) }
func (d *desk) str(s string) int            { return d.put(api.Pat{Kind: api.QStr, Text: s}) }
func (d *desk) rec(args ...int) int         { return d.put(api.Pat{Kind: api.QRec, Args: args}) }
func (d *desk) con(n int, args ...int) int  { return d.put(api.Pat{Kind: api.QCon, N: n, Args: args}) }
func (d *desk) exn(n int, args ...int) int  { return d.put(api.Pat{Kind: api.QExn, N: n, Args: args}) }
func (d *desk) cons(head, tail int) int     { return d.con(1, d.rec(head, tail)) }
func (d *desk) rows(rows ...int) api.Match  { d.Rows = append(d.Rows, rows...); return d.Match }
func (d *desk) with(rows ...int) api.Match  { m := d.Match; m.Rows = rows; return m }

// show is a value as a text.
func show(v api.Datum) string {
	var args []string
	for _, a := range v.Args {
		args = append(args, show(a))
	}
	in := strings.Join(args, " ")
	switch v.Kind {
	case api.WInt:
		return strconv.FormatInt(v.Int, 10)
	case api.WStr:
		return strconv.Quote(v.Text)
	case api.WRec:
		return "{" + in + "}"
	case api.WCon:
		return "C" + strconv.Itoa(v.N) + "(" + in + ")"
	case api.WExn:
		return "E" + strconv.Itoa(v.N) + "(" + in + ")"
	}
	return "?"
}

func showBinds(l []api.Bind) string {
	var s []string
	for _, b := range l {
		s = append(s, strconv.Itoa(b.Var)+"="+show(b.Val))
	}
	return strings.Join(s, ", ")
}
