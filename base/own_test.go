package base_test

import (
	"slices"
	"strings"
	"sync"
	"testing"

	"crucible/base"
)

type question struct {
	b []byte
	s string
}

type answer struct {
	hex, letters         string
	fromHex, fromLetters string
	sum                  [32]byte
	ok                   [3]bool
}

func ask(q question) (a answer) {
	a.hex = base.Hex(q.b)
	a.letters = base.Base64(q.b)
	hex, ok := base.FromHex(q.s)
	a.fromHex, a.ok[0] = string(hex), ok
	letters, ok := base.FromBase64(q.s)
	a.fromLetters, a.ok[1] = string(letters), ok
	a.sum, a.ok[2] = base.Sum32(q.b)
	return a
}

func (r *rule) questions(n int) []question {
	out := make([]question, n)
	for i := range out {
		out[i] = question{r.list(36), r.text([]string{allDigits, allLetters}[i%2], 24)}
		if i%5 == 0 {
			out[i].b = slices.Repeat([]byte{byte(r.next())}, 32)
		}
	}
	return out
}

// R1, R5: anything at all, in any order, and several at a time.
func TestSame(t *testing.T) {
	r := rule{31}
	questions := r.questions(4000)
	var first []answer
	for _, q := range questions {
		first = append(first, ask(q))
	}
	for i, q := range slices.Backward(questions) {
		if ask(q) != first[i] {
			t.Errorf("what was asked before makes a difference: %v", q)
		}
	}
	var wait sync.WaitGroup
	for range 4 {
		wait.Go(func() {
			for i, q := range questions {
				if ask(q) != first[i] {
					t.Errorf("what is asked at the same time makes a difference: %v", q)
				}
			}
		})
	}
	wait.Wait()
}

// R2: nothing beside a false.
func TestNothingBeside(t *testing.T) {
	r := rule{33}
	seen := map[[3]bool]int{}
	for _, q := range r.questions(40000) {
		a := ask(q)
		seen[a.ok]++
		if !a.ok[0] && a.fromHex != "" || !a.ok[1] && a.fromLetters != "" || !a.ok[2] && a.sum != [32]byte{} {
			t.Errorf("%v: %v", q, a)
		}
	}
	if len(seen) != 8 {
		t.Errorf("what is true and what is false: %v", seen)
	}
	// What goes wrong late leaves nothing of what stands ahead.
	fromHexFails(t, strings.Repeat("ab", 500)+"aB")
	fromBase64Fails(t, strings.Repeat("Zm9v", 500)+"Zh")
}

// R4: what is handed in is as it was, with its spare room and what stands ahead of it.
func TestLeftAsItWas(t *testing.T) {
	r := rule{35}
	for range 5000 {
		if t.Failed() {
			break
		}
		whole := make([]byte, 48)
		for i := range whole {
			whole[i] = byte(r.next())
		}
		before := slices.Clone(whole)
		from := r.below(8)
		part := whole[from : from+r.below(34)]
		base.Hex(part)
		base.Base64(part)
		base.Sum32(part)
		base.Sum32(whole[from : from+32])
		if !slices.Equal(whole, before) {
			t.Fatalf("%v became %v", before, whole)
		}
	}
}

// R4, R5: what is spare behind a list makes no difference.
func TestSpareRoom(t *testing.T) {
	r := rule{37}
	for range 5000 {
		if t.Failed() {
			break
		}
		b := r.list(36)
		spare := append(slices.Clone(b), 255, 255, 255)[:len(b)]
		if ask(question{b: b}) != ask(question{b: spare}) {
			t.Errorf("%v is told otherwise with room behind it", b)
		}
	}
}

// R4: what is answered stays as it is when the list handed in is written over.
func TestStays(t *testing.T) {
	b := []byte("0123456789abcdef0123456789ABCDEF")
	hex, letters := base.Hex(b), base.Base64(b)
	sum, _ := base.Sum32(b)
	want := [32]byte(b)
	clear(b)
	if hex != hexOf(want[:]) || letters != base64Of(want[:]) || sum != want {
		t.Errorf("they are %q, %q and %q now", hex, letters, sum)
	}
}

// R4: two answers share nothing, neither do their spare rooms.
func TestOwnMemory(t *testing.T) {
	for _, read := range []func(n int) []byte{
		func(n int) []byte { b, _ := base.FromHex(strings.Repeat("61", n)); return b },
		func(n int) []byte { b, _ := base.FromBase64(base64Of([]byte(strings.Repeat("a", n)))); return b },
	} {
		for n := range 70 {
			one, two := read(n), read(n)
			for _, b := range [][]byte{one[:cap(one)], append(one, 1, 2, 3)} {
				for i := range b {
					b[i] = 99
				}
			}
			if three, want := read(n), strings.Repeat("a", n); string(two) != want || string(three) != want {
				t.Errorf("%d bytes became %q and %q", n, two, three)
			}
		}
	}
}

var kept string

// R4: what is told is new memory.
func TestNewMemory(t *testing.T) {
	b := []byte(strings.Repeat("abc", 30))
	for name, call := range map[string]func(){
		"Hex":    func() { kept = base.Hex(b) },
		"Base64": func() { kept = base.Base64(b) },
	} {
		if made := testing.AllocsPerRun(10, call); made < 1 {
			t.Errorf("%s makes no memory of its own", name)
		}
	}
}

// R1: some million bytes.
func TestLong(t *testing.T) {
	r := rule{39}
	for _, n := range []int{1 << 16, 1<<20 + 1, 1<<20 + 2, 3 << 19} {
		b := make([]byte, n)
		for i := range b {
			b[i] = byte(r.next())
		}
		hex, letters := base.Hex(b), base.Base64(b)
		if len(hex) != 2*n || len(letters) != (8*n+5)/6 {
			t.Fatalf("%d bytes have %d digits and %d letters", n, len(hex), len(letters))
		}
		if got, ok := base.FromHex(hex); !ok || !slices.Equal(got, b) {
			t.Errorf("%d digits are read as %d bytes, %v", len(hex), len(got), ok)
		}
		if got, ok := base.FromBase64(letters); !ok || !slices.Equal(got, b) {
			t.Errorf("%d letters are read as %d bytes, %v", len(letters), len(got), ok)
		}
		if got, ok := base.FromHex(hex + "0G"); ok || len(got) != 0 {
			t.Errorf("a wrong digit behind %d others is overlooked", len(hex))
		}
		if got, ok := base.FromBase64(letters + "="); ok || len(got) != 0 {
			t.Errorf("a wrong letter behind %d others is overlooked", len(letters))
		}
	}
}
