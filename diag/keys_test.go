package diag_test

import (
	"fmt"
	"strings"
	"testing"

	"crucible/api"
)

// alike are texts of one value; numbers: all of them are numbers as they are written, else none is.
type alike struct {
	texts   []string
	numbers bool
}

func keysAlike() []alike {
	return []alike{
		{[]string{"null"}, false}, {[]string{"true"}, false}, {[]string{"NaN"}, false}, {[]string{"undefined", "simple(23)"}, false}, {[]string{"simple(0)"}, false}, {[]string{"Infinity"}, false}, {[]string{"-Infinity"}, false},
		{[]string{`""`}, false}, {[]string{`"a"`, `"\u0061"`}, false}, {[]string{`"é/"`, `"\u00E9\/"`, `"\u00e9\u002f"`}, false}, {[]string{`"😀"`, `"\ud83d\ude00"`, `"\uD83D\uDE00"`}, false},
		{[]string{"h''"}, false}, {[]string{"h'0a'", "h'0A'"}, false}, {[]string{"ext(-1,h'')", "ext(-1 , h'' )", "ext(-1/x/,//h'')"}, false}, {[]string{"[]", "[ ]", "[/x/]"}, false}, {[]string{"{}", "{ }"}, false}, {[]string{"[1,[2]]", "[ 0x1 , [2.0] ]", "[1e0,[2]/x/]"}, false}, {[]string{"{1:2,3:4}", "{3:4,1:2}", "{3:0x4,1.0:2}"}, false}, {[]string{"0(null)", "0( null )"}, false}, {[]string{"1(2)", "1(/x/2.0)"}, false},
		{[]string{"0", "-0", "0x0", "-0x00", "0.0", "-0e5", "1e-400", "-1e-400"}, true}, {[]string{"1", "0x1", "0x01", "1.0", "10e-1"}, true}, {[]string{"2", "2.0"}, true}, {[]string{"-255", "-0xff", "-0xFF", "-2.55e2"}, true}, {[]string{"18446744073709551616", "0x10000000000000000", "18446744073709551615.0", "1.8446744073709552e19"}, true}, {[]string{"0.1", "1e-1", "0.1000000000000000055511151231257827021181583404541015625", "0.10000000000000001"}, true}, {[]string{"9007199254740993.0", "9007199254740992", "9007199254740992.5"}, true},
	}
}

// P22.2: a key that stands twice, in whatever form, is told at its first byte as soon as it has ended.
func TestTwice(t *testing.T) {
	for _, keys := range keysAlike() {
		for _, first := range keys.texts {
			for _, again := range keys.texts {
				for _, between := range []string{":0,", " : 0 , ", ":5(0),\"other\":1,", ":0,/x/"} {
					ahead := "{" + first + between
					whole := ahead + again
					for _, behind := range []string{":1}", " :1}", "/x/:1}", ":", "]", "}", ",", " ", "/x", "?", "\x00", "\"", "["} {
						fails(t, whole+behind, input, len(ahead))
					}
					if keys.numbers {
						// It has not ended where nothing comes behind it.
						fails(t, whole, input, len(whole))
					} else {
						fails(t, whole, input, len(ahead))
					}
				}
			}
		}
	}
}

// P22.2: a number's end is the byte behind it, ahead of what this byte says by itself; but not where the number goes on.
func TestEndOfNumber(t *testing.T) {
	for _, s := range []string{
		"{1:2,^1:", "{1:2,^1 ", "{1:2,^1]", "{1:2,^1\xff", "{1:2,^1/", "{1:2,^1/x", "{1:2,^1\"", "{1:2,^1[", "{1:2,^1{", "{1:2,^1)", "{1:2,^1-", "{1:2,^1+", "{1:2,^1x", "{1:2,^1f",
		"{1:2,1^", "{1:2,1.^", "{1:2,1.^]", "{1:2,1e^", "{1:2,1e^]", "{1:2,1e+^", "{1:2,1e+^:", "{1:2,1.0^", "{1:2,^1.0.", "{1:2,^1.0]", "{1:2,1.0e^", "{1:2,1e0^", "{1:2,^1e0.", "{1:2,^1e0x",
		"{1:2,0x1^", "{1:2,^0x1g", "{1:2,^0x1.", "{1:2,^0x1(", "{0:2,0x^", "{0:2,0x^g", "{0:2,^00", "{0:2,^01", "{0:2,^0X1", "{0:2,-^", "{0:2,-^:", "{0:2,-0^", "{0:2,^-0(", "{0:2,^-0x0(", "{0:2,^-00", "{0:2,^0.0(", "{0:2,^0e0(",
		"{1:2,1(^", "{1:2,1(^)", "{1:2,1(1^", "{1:2,1(1)^", "{1:2,1(1)^]", "{1:2,^1 (", "{1:2,^1/x/(", "{0:1,0(^", "{4:1,4(^", "{2:1,^2(", "{3:1,^3(", "{2:1,^2(0)", "{2:1,^2:", "{23:1,23(^", "{18446744073709551615:1,18446744073709551615(^", "{18446744073709551616:1,^18446744073709551616(", "{20000000000000000000:1,^20000000000000000000(", "{1(0):1,1(^", "{1(0):1,^1(0)", "{1(0):1,1(0^", "{1(0):1,1(0^]",
		// One that stands once only goes wrong where it goes wrong.
		"{1:2,2^", "{1:2,2^(", "{1:2,0^0", "{1:2,-1^(", "{1:2,3^]", "{1:2,1.5^.",
		"{12:1,1^", "{12:1,12^", "{12:1,1^]", "{12:1,^12]", "{1:1,12^]", "{-1:1,1^]", "{1e400:1,1e400^", "{1e400:1,^1e400]", "{Infinity:1,^1e309:", "{-Infinity:1,^-1e309:", "{1e400:1,^Infinity", "{1e400:1,Infinit^", "{-1e400:1,^-Infinity", "{-1e400:1,-I^", "{NaN:1,^NaN", "{NaN:1,Na^",
	} {
		failsAt(t, s)
		sameAsReference(t, strings.Replace(s, "^", "", 1))
		for _, ahead := range []string{" /x/ ", "[", "{5:", "{", "7(", "[{1:1},"} {
			at := len(ahead) + strings.Index(s, "^")
			fails(t, ahead+strings.Replace(s, "^", "", 1), input, at)
		}
	}
}

// P22.2: any other key's end is its last byte: ahead of that what goes wrong in it is told.
func TestEndOfOthers(t *testing.T) {
	for _, s := range []string{
		`{"a":1,^"a"`, `{"a":1,"a^`, `{"a":1,"^` + "\n", `{"a":1,"a^` + "\n", `{"a":1,"\^a"`, `{"a":1,"b"^]`, "{h'00':1,^h'00'", "{h'00':1,h'00^", "{h'00':1,h'00^x", "{null:1,^null", "{null:1,nul^", "{null:1,nul^x", "{null: 1, n^", "{true:1,^true]", "{undefined:1,^simple(23)", "{undefined:1,simple(23^", "{undefined:1,simple(23^]", "{undefined:1,^undefined",
		"{[]:1,^[]", "{[]:1,[^", "{[]:1,[^}", "{[1]:1,^[1]", "{[1]:1,[1^", "{[1]:1,[1^}", "{[1]:1,[1,^]", "{{}:1,^{}", "{{}:1,{^", "{{1:2}:1,^{1:2}", "{{1:2}:1,{1:2^", "{{1:2}:1,{1:2^]", "{{1:2}:1,{1:2,^1:", "{0(0):1,^0(0)", "{0(0):1,0(0^", "{ext(0,h''):1,^ext(0,h'')", "{ext(0,h''):1,ext(0,h''^", "{ext(0,h''):1,ext(0,h'' ^]",
	} {
		failsAt(t, s)
		sameAsReference(t, strings.Replace(s, "^", "", 1))
	}
}

// P22.2: only keys of one map count, values never, and the first that has ended is told.
func TestWhichKeys(t *testing.T) {
	reads(t, "{1:1,2:1}", object(num(1), num(1), num(2), num(1)))
	reads(t, "{1:{1:{1:1}}}", object(num(1), object(num(1), object(num(1), num(1)))))
	reads(t, "[{1:1},{1:1}]", list(object(num(1), num(1)), object(num(1), num(1))))
	reads(t, "{{1:1}:{1:1},1:1}", object(num(1), num(1), object(num(1), num(1)), object(num(1), num(1))))
	reads(t, "{1:2,-1:2,1.5:2,\"1\":2,h'01':2,h'31':2,[1]:2,{1:1}:2,1(1):2,simple(1):2,true:2,ext(1,h''):2}",
		object(yes, num(2), num(-1), num(2), num(1), num(2), float(half3), num(2), text("1"), num(2), raw("\x01"), num(2), raw("1"), num(2), list(num(1)), num(2), object(num(1), num(1)), num(2), tag(1, num(1)), num(2), simple(1), num(2), ext(1, ""), num(2)))
	for _, s := range []string{
		"{1:1,2:2,^1:3,2:4}", "{1:1,2:2,^2:3,1:4}", "{1:1,^1:1,1:1}", "{1:{2:1,^2:1},1:1}", "{1:0,2:{3:1,^3:1},1:1}", "{[1]:0,{2:1,^2:1}:1,[1]:1}", "{1:0,^1:{2:1,2:1}}", "{{1:1,^1:1}:1,{1:1,1:1}:1}", "[{1:1},{2:1,^2:1},{3:1,3:1}]", "{1:0,^1:?}", "{1:^?,1:1}", "{1:0,2:^?,1:1}", "{1:1,2:[1,2,3],\"x\":{},^1:1",
	} {
		failsAt(t, s)
		sameAsReference(t, strings.Replace(s, "^", "", 1))
	}
}

// P22.2: among many keys, the same as any of them.
func TestTwiceAmongMany(t *testing.T) {
	r := rule{2241}
	for _, n := range []int{1, 2, 3, 10, 100, 2000} {
		for range 20 {
			order := make([]int, n)
			for i := range n {
				order[i] = i
			}
			shuffle(&r, order)
			var all strings.Builder
			all.WriteString("{")
			want := make([]api.Value, 2*n)
			for i, key := range order {
				fmt.Fprintf(&all, "%s%d:%d", []string{"", ","}[min(i, 1)], key, i)
				want[2*key], want[2*key+1] = num(int64(key)), num(int64(i))
			}
			reads(t, all.String()+"}", object(want...))
			s := all.String() + ","
			fails(t, fmt.Sprintf("%s%d.0:0}", s, r.below(n)), input, len(s))
			reads(t, fmt.Sprintf("%s%d:0}", s, n), object(append(want, num(int64(n)), num(0))...))
		}
	}
}

// P22.2: any map, keys standing twice in it in any form.
func TestTwiceAny(t *testing.T) {
	r := rule{2242}
	twice := 0
	for range 20000 {
		x := r.written(4, true)
		answers(t, x.s, x.value, x.told)
		if x.told == (told{}) {
			continue
		}
		twice++
		// What stands behind makes no difference.
		at := x.told.at
		fails(t, x.s+r.wildText(), input, at)
	}
	if twice < 1500 {
		t.Errorf("in %d a key stands twice", twice)
	}
}

func (r *rule) wildText() string {
	out := make([]byte, r.below(5))
	for i := range out {
		out[i] = r.wild()
	}
	return string(out)
}
