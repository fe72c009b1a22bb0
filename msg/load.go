package msg

import (
	"wattle/api"
	"wattle/pack"
)

// Encode is a message's load.
func Encode(m api.Msg) ([]byte, api.Errno) {
	if e := Check(m); e != api.OK {
		return nil, e
	}
	// The message may be, but the list is nested deeper than its Val, and has more parts.
	b, e := pack.Encode(list(m))
	if e != api.OK || len(b) > api.MaxFrame {
		return nil, api.ErrRange
	}
	return b, api.OK
}

// Decode is the message of a load.
func Decode(b []byte) (api.Msg, api.Errno) {
	// No load is longer, also where the bytes are those of a list.
	if len(b) > api.MaxFrame {
		return api.Msg{}, api.ErrProtocol
	}
	v, n, e := pack.Decode(b)
	if e != api.OK || n < len(b) || v.Kind != api.KList {
		return api.Msg{}, api.ErrProtocol
	}
	m, whole := message(v.List)
	if !whole || Check(m) != api.OK {
		return api.Msg{}, api.ErrProtocol
	}
	return m, api.OK
}

// list is the list whose bytes a message's load is.
func list(m api.Msg) api.Value {
	has := kinds()[int64(m.Kind)]
	l := []api.Value{number(int64(m.Kind))}
	if has.name.there() {
		l = append(l, text(m.Name))
	}
	if has.text.there() {
		l = append(l, text(m.Text))
	}
	if has.num.there() {
		l = append(l, number(m.Num))
	}
	if has.val != api.KNull {
		l = append(l, m.Val)
	}
	return api.Value{Kind: api.KList, List: l}
}

// message is the message of a list's values, and whether they are just what its kind has.
func message(l []api.Value) (api.Msg, bool) {
	t := taker{rest: l}
	kind := t.take(api.KInt).Int
	has, known := kinds()[kind]
	// A number that is no kind's need not fit into an int.
	if !known {
		return api.Msg{}, false
	}
	m := api.Msg{Kind: int(kind)}
	if has.name.there() {
		m.Name = t.take(api.KStr).Str
	}
	if has.text.there() {
		m.Text = t.take(api.KStr).Str
	}
	if has.num.there() {
		m.Num = t.take(api.KInt).Int
	}
	if has.val != api.KNull {
		m.Val = t.take(has.val)
	}
	return m, !t.wrong && len(t.rest) == 0
}

// taker takes values from the front on, and holds whether one was not as it was to be.
type taker struct {
	rest  []api.Value
	wrong bool
}

// take takes the next value, which is to be of that kind; null, if it is not.
func (t *taker) take(kind int) api.Value {
	if len(t.rest) == 0 || t.rest[0].Kind != kind {
		t.wrong = true
		return api.Value{}
	}
	v := t.rest[0]
	t.rest = t.rest[1:]
	return v
}

// number is a number as a value.
func number(n int64) api.Value { return api.Value{Kind: api.KInt, Int: n} }

// text is a text as a value.
func text(s string) api.Value { return api.Value{Kind: api.KStr, Str: s} }
