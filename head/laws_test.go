package head_test

import (
	"errors"
	"testing"

	"crucible/api"
	"crucible/head"
)

// P19.4: what was written is read as it was, whatever stands about it.
func TestWrittenIsRead(t *testing.T) {
	r := rule{41}
	args := edges()
	for range 50000 {
		args = append(args, r.arg())
	}
	for _, arg := range args {
		ahead, behind := r.bytes(12), r.bytes(12)
		for major := range uint8(8) {
			s, ok := head.Write(major, arg)
			if !ok {
				continue
			}
			got, err := head.Read(ahead+s+behind, len(ahead))
			if got.Major != major || got.Arg != arg || got.Size != len(s) || err != nil {
				t.Errorf("Write(%d, %d) = % x is read as %v, %v", major, arg, s, got, err)
			}
		}
		for _, width := range []int{16, 32, 64} {
			s, ok := head.Float(width, arg)
			if !ok {
				continue
			}
			got, err := head.Read(ahead+s+behind, len(ahead))
			if got.Major != 7 || got.Arg != arg || got.Size != len(s) || got.Size != 1+width/8 || err != nil {
				t.Errorf("Float(%d, %x) = % x is read as %v, %v", width, arg, s, got, err)
			}
		}
	}
}

// P19.4: a head that was read, written anew, is no longer than it was, and says the same.
func TestWrittenAnew(t *testing.T) {
	r := rule{43}
	shorter := 0
	for range 100000 {
		s := r.head()
		h, err := head.Read(s, 0)
		if err != nil || h.Size != len(s) {
			t.Errorf("Read(% x, 0) = %v, %v", s, h, err)
		}
		if h.Major == 7 || h.Info == 31 {
			continue
		}
		anew, ok := head.Write(h.Major, h.Arg)
		if !ok || len(anew) > h.Size {
			t.Errorf("% x is % x, %v, written anew", s, anew, ok)
		}
		if len(anew) < h.Size {
			shorter++
		}
		again, err := head.Read(anew, 0)
		if again.Major != h.Major || again.Arg != h.Arg || err != nil {
			t.Errorf("% x, written anew, is read as %v, %v", s, again, err)
		}
		if twice, _ := head.Write(again.Major, again.Arg); twice != anew {
			t.Errorf("% x, written twice, is % x and then % x", s, anew, twice)
		}
	}
	if shorter < 10000 {
		t.Errorf("only %d came out shorter", shorter)
	}
}

// P19.4: what stands ahead of a head and behind it makes no difference.
func TestAheadAndBehind(t *testing.T) {
	r := rule{45}
	for range 50000 {
		s, ahead, behind := r.head(), r.bytes(12), r.bytes(12)
		want, err := head.Read(s, 0)
		if err != nil {
			t.Errorf("Read(% x, 0): %v", s, err)
		}
		readIs(t, ahead+s+behind, len(ahead), want)
		readIs(t, s+behind, 0, want)
		readIs(t, ahead+s, len(ahead), want)
		// What begins no head begins none anywhere.
		s = r.bytes(4)
		_, err = head.Read(s, 0)
		var fault *api.Fault
		if errors.As(err, &fault) && fault.At < len(s) {
			readFails(t, ahead+s+behind, len(ahead), len(ahead))
		}
	}
}

// P19.4: the beginnings of a head are ErrInput at their length, at whatever place it begins.
func TestBeginnings(t *testing.T) {
	r := rule{47}
	for range 50000 {
		s, ahead := r.head(), r.bytes(12)
		for n := range len(s) {
			readFails(t, s[:n], 0, n)
			readFails(t, ahead+s[:n], len(ahead), len(ahead)+n)
		}
	}
}

// P19.4: heads one behind the other are read from place to place.
func TestAlong(t *testing.T) {
	r := rule{49}
	for range 5000 {
		var parts []string
		all := ""
		for range 1 + r.below(8) {
			parts = append(parts, r.head())
			all += parts[len(parts)-1]
		}
		at := 0
		for _, part := range parts {
			want, _ := head.Read(part, 0)
			readIs(t, all, at, want)
			at += want.Size
		}
		readFails(t, all, at, len(all))
	}
}

// P19.2, P19.4: two heads that are written are the same just if their major types and arguments are.
func TestOneHeadEach(t *testing.T) {
	type said struct {
		major uint8
		arg   uint64
	}
	met := map[string]said{}
	for _, arg := range edges() {
		for major := range uint8(8) {
			s, ok := head.Write(major, arg)
			if !ok {
				continue
			}
			if other, ok := met[s]; ok && other != (said{major, arg}) {
				t.Errorf("% x is written of %v and of %v", s, other, said{major, arg})
			}
			met[s] = said{major, arg}
		}
	}
}
