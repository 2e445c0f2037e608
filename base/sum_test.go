package base_test

import (
	"slices"
	"testing"

	"crucible/base"
)

// P11.3: just 32 bytes.
func TestSum32(t *testing.T) {
	r := rule{5}
	for range 2000 {
		if t.Failed() {
			break
		}
		b := make([]byte, 32)
		for i := range b {
			b[i] = byte(r.next())
		}
		got, ok := base.Sum32(b)
		if !ok || !slices.Equal(got[:], b) {
			t.Errorf("Sum32(%v) = %v, %v", b, got, ok)
		}
	}
	if got, ok := base.Sum32(make([]byte, 32)); got != [32]byte{} || !ok {
		t.Errorf("Sum32 of 32 noughts = %v, %v", got, ok)
	}
}

// P11.3: each byte stands at its own place.
func TestSum32Places(t *testing.T) {
	for at := range 32 {
		b := make([]byte, 32)
		b[at] = byte(200 + at)
		want := [32]byte{}
		want[at] = byte(200 + at)
		if got, ok := base.Sum32(b); got != want || !ok {
			t.Errorf("Sum32(%v) = %v, %v", b, got, ok)
		}
	}
}

// P11.3: every other length, however much room is spare.
func TestSum32OtherLengths(t *testing.T) {
	full := slices.Repeat([]byte{7}, 300)
	for n := range 300 {
		for _, b := range [][]byte{full[:n], full[:n:n]} {
			got, ok := base.Sum32(b)
			if ok != (n == 32) || !ok && got != [32]byte{} {
				t.Errorf("Sum32 of %d bytes = %v, %v", n, got, ok)
			}
		}
	}
	for _, b := range [][]byte{nil, {}, make([]byte, 1<<16)} {
		if got, ok := base.Sum32(b); ok || got != [32]byte{} {
			t.Errorf("Sum32 of %d bytes = %v, %v", len(b), got, ok)
		}
	}
}
