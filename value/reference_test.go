package value_test

import (
	"bytes"
	"cmp"
	"errors"
	"fmt"
	"math"
	"math/big"
	"slices"
	"strconv"
	"strings"
	"unicode/utf8"

	"crucible/api"
)

const (
	plus    = 0x7ff0000000000000
	minus   = 0xfff0000000000000
	noNum   = 0x7ff8000000000000
	half3   = 0x3ff8000000000000 // 1.5
	deepest = 128
)

func null() api.Value            { return api.Value{Kind: api.VNull} }
func wrong() api.Value           { return api.Value{Kind: api.VNone} }
func boolean(n uint64) api.Value { return api.Value{Kind: api.VBool, N: n} }
func limbs(neg bool, l ...uint32) api.Value {
	return api.Value{Kind: api.VInt, Int: api.Int{Neg: neg, Mag: l}}
}
func float(bits uint64) api.Value            { return api.Value{Kind: api.VFloat, Bits: bits} }
func text(s string) api.Value                { return api.Value{Kind: api.VText, Text: s} }
func raw(s string) api.Value                 { return api.Value{Kind: api.VBytes, Text: s} }
func list(l ...api.Value) api.Value          { return api.Value{Kind: api.VList, Kids: l} }
func mapped(l ...api.Value) api.Value        { return api.Value{Kind: api.VMap, Kids: l} }
func tag(n uint64, l ...api.Value) api.Value { return api.Value{Kind: api.VTag, N: n, Kids: l} }
func simple(n uint64) api.Value              { return api.Value{Kind: api.VSimple, N: n} }
func ext(t int8, s string) api.Value         { return api.Value{Kind: api.VExt, Ext: t, Text: s} }

// num is a small whole number.
func num(n int64) api.Value {
	if n == 0 {
		return limbs(false)
	}
	return limbs(n < 0, uint32(max(n, -n)))
}

// within puts v into that many containers, which shape makes.
func within(n int, v api.Value, shape func(api.Value) api.Value) api.Value {
	for range n {
		v = shape(v)
	}
	return v
}

func inList(v api.Value) api.Value  { return list(v) }
func inTag(v api.Value) api.Value   { return tag(1, v) }
func asKey(v api.Value) api.Value   { return mapped(v, null()) }
func asValue(v api.Value) api.Value { return mapped(null(), v) }

// deep is n lists within one another.
func deep(n int) api.Value { return within(n-1, list(), inList) }

// same: field by field, an empty list the same as nil.
func same(a, b api.Value) bool {
	return a.Kind == b.Kind && a.N == b.N && a.Int.Neg == b.Int.Neg && slices.Equal(a.Int.Mag, b.Int.Mag) &&
		a.Bits == b.Bits && a.Ext == b.Ext && a.Text == b.Text && slices.EqualFunc(a.Kids, b.Kids, same)
}

// copied has no memory of v, and no spare room.
func copied(v api.Value) api.Value {
	v.Int.Mag = slices.Clip(slices.Clone(v.Int.Mag))
	kids := make([]api.Value, len(v.Kids))
	for i, k := range v.Kids {
		kids[i] = copied(k)
	}
	v.Kids = kids
	return v
}

func isContainer(v api.Value) bool {
	return slices.Contains([]api.Kind{api.VList, api.VMap, api.VTag}, v.Kind)
}

// place is a node, where it stands and how many containers stand around it.
type place struct {
	node   api.Value
	path   string
	around int
}

// places are all nodes, each ahead of the nodes of its Kids.
func places(v api.Value) []place {
	return appendPlaces(nil, place{node: v})
}

func appendPlaces(out []place, p place) []place {
	out = append(out, p)
	around := p.around
	if isContainer(p.node) {
		around++
	}
	for i, k := range p.node.Kids {
		out = appendPlaces(out, place{k, p.path + "/" + strconv.Itoa(i), around})
	}
	return out
}

// alone: may the node be by itself, as the document's table of kinds has it? What a kind uses is held against that and then wiped off, so that nothing may be left.
func alone(v api.Value) bool {
	ok := true
	switch v.Kind {
	case api.VNull:
	case api.VBool:
		ok = v.N == 0 || v.N == 1
		v.N = 0
	case api.VInt:
		size := toBig(api.Int{Mag: v.Int.Mag})
		ok = len(v.Int.Mag) == (size.BitLen()+31)/32 && !(v.Int.Neg && size.Sign() == 0)
		v.Int = api.Int{}
	case api.VFloat:
		x := math.Float64frombits(v.Bits)
		ok = math.IsInf(x, 0) || v.Bits == noNum || !math.IsNaN(x) && x != math.Trunc(x)
		v.Bits = 0
	case api.VText:
		ok = utf8.ValidString(v.Text)
		v.Text = ""
	case api.VBytes:
		v.Text = ""
	case api.VList:
		v.Kids = nil
	case api.VMap:
		ok = len(v.Kids)%2 == 0
		for i := 2; i < len(v.Kids); i += 2 {
			ok = ok && compared(v.Kids[i], v.Kids[i-2]) > 0
		}
		v.Kids = nil
	case api.VTag:
		ok = !slices.Contains([]uint64{2, 3}, v.N) && len(v.Kids) == 1
		v.N, v.Kids = 0, nil
	case api.VSimple:
		ok = v.N < 256 && !(v.N >= 20 && v.N < 23) && !(v.N >= 24 && v.N < 32)
		v.N = 0
	case api.VExt:
		v.Ext, v.Text = 0, ""
	default:
		return false
	}
	return ok && same(v, api.Value{Kind: v.Kind})
}

func toBig(x api.Int) *big.Int {
	out := new(big.Int)
	for _, l := range slices.Backward(x.Mag) {
		out.Lsh(out, 32).Add(out, big.NewInt(int64(l)))
	}
	if x.Neg {
		out.Neg(out)
	}
	return out
}

// compared is Compare in the document's words.
func compared(a, b api.Value) int {
	steps := []int{
		cmp.Compare(a.Kind, b.Kind),
		cmp.Compare(a.N, b.N),
		cmp.Compare(a.Ext, b.Ext),
		toBig(a.Int).Cmp(toBig(b.Int)),
		cmp.Compare(rank(a.Bits), rank(b.Bits)),
		bytes.Compare([]byte(a.Text), []byte(b.Text)),
	}
	for _, c := range steps {
		if c != 0 {
			return c
		}
	}
	for i := range min(len(a.Kids), len(b.Kids)) {
		if c := compared(a.Kids[i], b.Kids[i]); c != 0 {
			return c
		}
	}
	return cmp.Compare(len(a.Kids), len(b.Kids))
}

// rank of a pattern in the total order: with the sign bit the greater the rest, the lower it stands.
func rank(bits uint64) int64 {
	if int64(bits) < 0 {
		return ^int64(bits & math.MaxInt64)
	}
	return int64(bits)
}

// told is what an error tells.
type told struct {
	err  error
	at   int
	path string
}

// checked is Check in the document's words.
func checked(v api.Value) told {
	all := places(v)
	for _, p := range all {
		if !alone(p.node) {
			return told{err: api.ErrArg, path: p.path}
		}
	}
	for _, p := range all {
		if isContainer(p.node) && p.around >= deepest {
			return told{err: api.ErrLimit, path: p.path}
		}
	}
	return told{}
}

// depthOf: the greatest number of containers around a node, itself counted, if only containers stand around it.
func depthOf(v api.Value) int {
	if !isContainer(v) {
		return 0
	}
	l := []int{0}
	for _, k := range v.Kids {
		l = append(l, depthOf(k))
	}
	return 1 + slices.Max(l)
}

// mapOf is Map in the document's words.
func mapOf(kids []api.Value) (api.Value, told) {
	if len(kids)%2 == 1 {
		return api.Value{}, told{err: api.ErrArg, at: len(kids)}
	}
	for i, k := range kids {
		if e := checked(k); e.err != nil {
			return api.Value{}, told{err: e.err, path: fmt.Sprintf("/%d%s", i, e.path)}
		}
	}
	out := mapped()
	for i := 0; i < len(kids); i += 2 {
		at := len(out.Kids)
		for at > 0 && compared(kids[i], out.Kids[at-2]) < 0 {
			at -= 2
		}
		if at > 0 && compared(kids[i], out.Kids[at-2]) == 0 {
			return api.Value{}, told{err: api.ErrInput, at: i / 2}
		}
		out.Kids = slices.Insert(out.Kids, at, kids[i], kids[i+1])
	}
	for _, k := range kids {
		if depthOf(k) == deepest {
			return api.Value{}, told{err: api.ErrLimit}
		}
	}
	return out, told{}
}

// found is Find in the document's words.
func found(m, key api.Value) (api.Value, bool) {
	if m.Kind != api.VMap || checked(m).err != nil || checked(key).err != nil {
		return api.Value{}, false
	}
	for i := 0; i < len(m.Kids); i += 2 {
		if compared(m.Kids[i], key) == 0 {
			return m.Kids[i+1], true
		}
	}
	return api.Value{}, false
}

// isTold: is err the one error that want names and no other one, with that place?
func isTold(err error, want told) bool {
	if err == nil || want.err == nil {
		return err == nil && want.err == nil
	}
	for _, e := range []error{api.ErrArg, api.ErrNil, api.ErrInput, api.ErrRep, api.ErrLimit, api.ErrNone, api.ErrBusy, api.ErrHandle, api.ErrKey, api.ErrStopped, api.ErrScript} {
		if errors.Is(err, e) != (e == want.err) {
			return false
		}
	}
	var f *api.Fault
	if !errors.As(err, &f) {
		f = &api.Fault{}
	}
	return f.At == want.at && f.Path == want.path
}

// rule makes numbers that look like any, the same in each run.
type rule struct{ state uint64 }

func (r *rule) next() uint64 {
	r.state += 0x9e3779b97f4a7c15
	x := r.state
	x = (x ^ x>>30) * 0xbf58476d1ce4e5b9
	x = (x ^ x>>27) * 0x94d049bb133111eb
	return x ^ x>>31
}

func (r *rule) below(n int) int { return int(r.next() % uint64(n)) }

func pick[T any](r *rule, l []T) T { return l[r.below(len(l))] }

// sizes are lists of limbs, some with noughts at the end.
var sizes = []api.Nat{nil, {}, {0}, {0, 0}, {1}, {1, 0}, {2}, {math.MaxUint32}, {0, 1}, {1, 1}, {1, 1, 0}, {0, 2}, {5, 0, 7}, {0, 0, 0, 1}}

// patterns of every class, of both signs, whole and not.
var patterns = []uint64{
	0, 1 << 63, 1, 1<<63 | 1, 1<<52 - 1, 1 << 52, 0x3fe0000000000000, 0xbfe0000000000000, 0x3fefffffffffffff, 0x3ff0000000000000, 0xbff0000000000000, half3, half3 | 1<<63,
	0x4000000000000000, 0x432fffffffffffff, 0x4330000000000000, 0x4330000000000001, 0x433fffffffffffff, 0x4340000000000000, 0x431fffffffffffff, 0x7fefffffffffffff, 0xffefffffffffffff,
	plus, minus, noNum, noNum | 1<<63, plus + 1, noNum + 1, noNum - 1, minus + 1, 1<<63 - 1, 1<<64 - 1,
}

// strings that are texts, and some that are none.
var texts = []string{"", "\x00", "a", "ab", "abc", "b", "é", "😀", "ﬀ", "\x7f", "\ue000", "\U0010ffff"}
var others = []string{"\xff", "a\x80", "\xc3", "\xed\xa0\x80", "\xc0\x80", "\xf4\x90\x80\x80", "ab\xe2\x82"}

var numbersN = []uint64{0, 1, 2, 3, 4, 19, 20, 22, 23, 24, 31, 32, 255, 256, 1 << 32, 1<<64 - 1}

// leaf is a value that may be and is no container, out of few, so that two are often the same.
func (r *rule) leaf() api.Value {
	switch r.below(9) {
	case 0:
		return null()
	case 1:
		return boolean(r.next() % 2)
	case 2, 3:
		return num(int64(r.below(7) - 3))
	case 4:
		return limbs(r.below(2) == 0, pick(r, []api.Nat{{1}, {0, 1}, {1, 1}, {7, 0, 7}})...)
	case 5:
		return float(pick(r, []uint64{half3, half3 | 1<<63, 1, 0x3fe0000000000000, plus, minus, noNum}))
	case 6:
		return text(pick(r, texts))
	case 7:
		return raw(pick(r, append(texts, others...)))
	}
	if r.below(2) == 0 {
		return simple(pick(r, []uint64{0, 19, 23, 32, 255}))
	}
	return ext(pick(r, []int8{-128, -1, 0, 1, 127}), pick(r, append(texts, others...)))
}

// value is one that may be, of at most that depth.
func (r *rule) value(depth int) api.Value {
	if depth == 0 || r.below(4) == 0 {
		return r.leaf()
	}
	switch r.below(3) {
	case 0:
		return tag(pick(r, []uint64{0, 1, 4, 1<<64 - 1}), r.value(depth-1))
	case 1:
		return list(r.values(depth-1, r.below(4))...)
	}
	out := mapped()
	for _, k := range r.values(depth-1, r.below(5)) {
		if m, e := mapOf(append(slices.Clone(out.Kids), k, r.value(depth-1))); e.err == nil {
			out = m
		}
	}
	return out
}

func (r *rule) values(depth, n int) []api.Value {
	var out []api.Value
	for range n {
		out = append(out, r.value(depth))
	}
	return out
}

// anything is a struct with anything in it.
func (r *rule) anything(depth int) api.Value {
	v := api.Value{Kind: api.Kind(r.below(14) - 1)}
	for range r.below(4) {
		r.change(&v)
	}
	if depth > 0 {
		for range r.below(4) {
			v.Kids = append(v.Kids, r.anything(depth-1))
		}
	}
	return v
}

// change sets one field of a node to what it may not, or may, be.
func (r *rule) change(v *api.Value) {
	switch r.below(9) {
	case 0:
		v.Kind = api.Kind(r.below(14) - 1)
	case 1:
		v.N = pick(r, numbersN)
	case 2:
		v.Int.Neg = !v.Int.Neg
	case 3:
		v.Int.Mag = slices.Clone(pick(r, sizes))
	case 4:
		v.Bits = pick(r, patterns)
	case 5:
		v.Ext = pick(r, []int8{-128, -1, 0, 1, 127})
	case 6:
		v.Text = pick(r, append(texts, others...))
	case 7:
		v.Kids = append(slices.Clone(v.Kids), r.leaf())
	case 8:
		if n := len(v.Kids); n > 0 {
			v.Kids = slices.Delete(slices.Clone(v.Kids), n-1, n)
		}
	}
}

// spoiled is v with n of its nodes changed.
func (r *rule) spoiled(v api.Value, n int) api.Value {
	v = copied(v)
	for range n {
		node := &v
		for len(node.Kids) > 0 && r.below(3) > 0 {
			node = &node.Kids[r.below(len(node.Kids))]
		}
		r.change(node)
	}
	return v
}

// show tells a value in few words.
func show(v api.Value) string {
	s := strings.ReplaceAll(fmt.Sprintf("%+v", v), "api.", "")
	return s[:min(len(s), 400)]
}
