package head_test

import (
	"encoding/binary"
	"errors"
	"strings"
	"testing"

	"crucible/api"
	"crucible/head"
)

// The greatest and the least int.
const (
	most  = int(^uint(0) >> 1)
	least = -most - 1
)

// sizes tells how many bytes the head has that a byte begins; 0, if it begins none.
func sizes() (out [256]int) {
	for major := 0; major < 256; major += 32 {
		for info := range 24 {
			out[major+info] = 1
		}
		out[major+24], out[major+25], out[major+26], out[major+27] = 2, 3, 5, 9
	}
	for _, first := range []int{0x5f, 0x7f, 0x9f, 0xbf, 0xff} {
		out[first] = 1
	}
	return out
}

// reference reads by the tables of the chapter: a head, or which error it is and at what place.
func reference(s string, at int) (h api.Head, want error, place int) {
	if at < 0 || at > len(s) {
		return api.Head{}, api.ErrArg, 0
	}
	rest := s[at:]
	if rest == "" {
		return api.Head{}, api.ErrInput, at
	}
	size := sizes()[rest[0]]
	if size == 0 {
		return api.Head{}, api.ErrInput, at
	}
	if len(rest) < size {
		return api.Head{}, api.ErrInput, len(s)
	}
	h = api.Head{Major: rest[0] / 32, Info: rest[0] % 32, Size: size}
	behind := []byte(rest[1:size])
	switch h.Info {
	case 24:
		h.Arg = uint64(behind[0])
	case 25:
		h.Arg = uint64(binary.BigEndian.Uint16(behind))
	case 26:
		h.Arg = uint64(binary.BigEndian.Uint32(behind))
	case 27:
		h.Arg = binary.BigEndian.Uint64(behind)
	case 31:
	default:
		h.Arg = uint64(h.Info)
	}
	return h, nil, 0
}

// forms are all heads of a major type and an argument, the shortest first, simple values and floats alike.
func forms(major uint8, arg uint64) (out []string) {
	first := major * 32
	if arg < 24 {
		out = append(out, string([]byte{first + byte(arg)}))
	}
	if arg < 1<<8 {
		out = append(out, string([]byte{first + 24, byte(arg)}))
	}
	if arg < 1<<16 {
		out = append(out, string(binary.BigEndian.AppendUint16([]byte{first + 25}, uint16(arg))))
	}
	if arg < 1<<32 {
		out = append(out, string(binary.BigEndian.AppendUint32([]byte{first + 26}, uint32(arg))))
	}
	return append(out, string(binary.BigEndian.AppendUint64([]byte{first + 27}, arg)))
}

// edges are the arguments about the edges of each width, about the powers of 2, and some others.
func edges() (out []uint64) {
	for n := range uint64(600) {
		out = append(out, n, 1<<16-300+n, 1<<32-300+n, 1<<64-1-n, 1<<63-300+n)
	}
	for bit := range 64 {
		one := uint64(1) << bit
		out = append(out, one-1, one, one+1, one|1<<63, ^one)
	}
	return append(out, 0x0102030405060708, 0xfedcba9876543210, 0x00ff00ff00ff00ff, 0xff00ff00ff00ff00, 0x8000000000000080)
}

// isInput: is it ErrInput and no other, at that place and with no Path?
func isInput(err error, at int) bool {
	var fault *api.Fault
	return just(err, api.ErrInput) && errors.As(err, &fault) && fault.At == at && fault.Path == ""
}

// isArg: is it ErrArg and no other, with no place?
func isArg(err error) bool {
	var fault *api.Fault
	return just(err, api.ErrArg) && (!errors.As(err, &fault) || fault.At == 0 && fault.Path == "")
}

// just: is it this one of api's errors and no other?
func just(err, want error) bool {
	for _, other := range []error{api.ErrArg, api.ErrNil, api.ErrInput, api.ErrRep, api.ErrLimit, api.ErrNone, api.ErrBusy, api.ErrHandle, api.ErrKey, api.ErrStopped, api.ErrScript} {
		if errors.Is(err, other) != (other == want) {
			return false
		}
	}
	return true
}

func readIs(t *testing.T, s string, at int, want api.Head) {
	t.Helper()
	if got, err := head.Read(s, at); got != want || err != nil {
		t.Errorf("Read(% x, %d) = %v, %v, want %v", s, at, got, err, want)
	}
}

func readFails(t *testing.T, s string, at int, place int) {
	t.Helper()
	if got, err := head.Read(s, at); got != (api.Head{}) || !isInput(err, place) {
		t.Errorf("Read(% x, %d) = %v, %v, want ErrInput at %d", s, at, got, err, place)
	}
}

func readRefuses(t *testing.T, s string, at int) {
	t.Helper()
	if got, err := head.Read(s, at); got != (api.Head{}) || !isArg(err) {
		t.Errorf("Read of %d bytes at %d = %v, %v, want ErrArg", len(s), at, got, err)
	}
}

// sameAsReference asks Read of one place.
func sameAsReference(t *testing.T, s string, at int) {
	t.Helper()
	want, wrong, place := reference(s, at)
	switch wrong {
	case nil:
		readIs(t, s, at, want)
	case api.ErrArg:
		readRefuses(t, s, at)
	default:
		readFails(t, s, at, place)
	}
}

func writeIs(t *testing.T, major uint8, arg uint64, want string) {
	t.Helper()
	if got, ok := head.Write(major, arg); got != want || !ok {
		t.Errorf("Write(%d, %d) = % x, %v, want % x", major, arg, got, ok, want)
	}
}

func writeFails(t *testing.T, major uint8, arg uint64) {
	t.Helper()
	if got, ok := head.Write(major, arg); got != "" || ok {
		t.Errorf("Write(%d, %d) = % x, %v, want false", major, arg, got, ok)
	}
}

func floatIs(t *testing.T, width int, bits uint64, want string) {
	t.Helper()
	if got, ok := head.Float(width, bits); got != want || !ok {
		t.Errorf("Float(%d, %x) = % x, %v, want % x", width, bits, got, ok, want)
	}
}

func floatFails(t *testing.T, width int, bits uint64) {
	t.Helper()
	if got, ok := head.Float(width, bits); got != "" || ok {
		t.Errorf("Float(%d, %x) = % x, %v, want false", width, bits, got, ok)
	}
}

// rule makes numbers that look like any, the same in each run.
type rule struct{ state uint64 }

func (r *rule) next() uint64 {
	r.state += 0x9e3779b97f4a7c15
	z := r.state
	z = (z ^ z>>30) * 0xbf58476d1ce4e5b9
	z = (z ^ z>>27) * 0x94d049bb133111eb
	return z ^ z>>31
}

func (r *rule) below(n int) int { return int(r.next() % uint64(n)) }

// arg makes an argument of any length.
func (r *rule) arg() uint64 { return r.next() >> r.below(64) }

// bytes makes up to n bytes of any kind, those among them that begin long heads, or none, more often than others.
func (r *rule) bytes(n int) string {
	out := make([]byte, r.below(n+1))
	for i := range out {
		out[i] = byte(r.next())
		if r.below(2) == 0 {
			out[i] = byte(r.below(8)*32 + 24 + r.below(8))
		}
	}
	return string(out)
}

// head makes a head of any form, open ones too.
func (r *rule) head() string {
	if r.below(8) == 0 {
		return []string{"\x5f", "\x7f", "\x9f", "\xbf", "\xff"}[r.below(5)]
	}
	all := forms(uint8(r.below(8)), r.arg())
	return all[r.below(len(all))]
}

// The reference itself, held against what is known.
func TestReference(t *testing.T) {
	count := map[int]int{}
	for _, size := range sizes() {
		count[size]++
	}
	// Of eight major types 24 informations and the four that are longer; five are open; 24 and three bytes begin none.
	if count[1] != 8*24+5 || count[2] != 8 || count[3] != 8 || count[5] != 8 || count[9] != 8 || count[0] != 27 {
		t.Errorf("the reference has heads of %v bytes", count)
	}
	if h, err, _ := reference("x\x39\x01\x00y", 1); h != (api.Head{Major: 1, Info: 25, Arg: 256, Size: 3}) || err != nil {
		t.Errorf("the reference has %v, %v", h, err)
	}
	if _, err, place := reference("x\x1b\x01", 1); err != api.ErrInput || place != 3 {
		t.Errorf("the reference has %v, %d", err, place)
	}
	if got := strings.Join(forms(6, 5), " "); got != "\xc5 \xd8\x05 \xd9\x00\x05 \xda\x00\x00\x00\x05 \xdb\x00\x00\x00\x00\x00\x00\x00\x05" {
		t.Errorf("the reference has % x", got)
	}
}
