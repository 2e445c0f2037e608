package escape_test

import (
	"errors"
	"strings"
	"testing"

	"crucible/api"
	"crucible/escape"
)

// P10.3: the chapter's examples, and what is like them.
func TestScanKnown(t *testing.T) {
	scanIs(t, `x"a", 1`, 1, "a", 4)
	scanFails(t, `x"a", 1`, 0, 0)
	scanFails(t, `x"a", 1`, 7, 7)
	scanFails(t, `x"a", 1`, 3, 7)
	scanIs(t, `""`, 0, "", 2)
	scanFails(t, `""`, 1, 2)
	scanFails(t, `""`, 2, 2)
	scanFails(t, "", 0, 0)
	scanIs(t, `{"a":"b"}`, 1, "a", 4)
	scanIs(t, `{"a":"b"}`, 3, ":", 6)
	scanIs(t, `{"a":"b"}`, 5, "b", 8)
	scanFails(t, `{"a":"b"}`, 7, 9)
	scanIs(t, "\xff\"é\"\xff", 1, "é", 5)
	scanIs(t, `\"a\"`+`"`, 1, `a"`, 6)
	scanIs(t, `"\ud83d\ude00" `, 0, "😀", 14)
	scanFails(t, `  "\ud83d" `, 2, 9)
	scanFails(t, "  \"\xe2\x82\" ", 2, 5)
	scanFails(t, "  \"a\n", 2, 4)
	scanFails(t, `  "a`, 2, 4)
}

// P10.3: a place that is none is ErrArg, whatever stands elsewhere, and no place is told.
func TestScanOutside(t *testing.T) {
	for _, s := range []string{"", `"`, `"a"`, `""`, "x", "\xff", strings.Repeat(`"a"`, 1000)} {
		for _, at := range []int{least, least + 1, -1 << 32, -1 << 31, -len(s) - 1, -3, -2, -1, len(s) + 1, len(s) + 2, 1 << 31, 1 << 32, 1 << 62, most - 1, most} {
			text, next, err := escape.Scan(s, at)
			if text != "" || next != 0 || !just(err, api.ErrArg) {
				t.Errorf("Scan of %d bytes at %d = %q, %d, %v", len(s), at, text, next, err)
			}
			var fault *api.Fault
			if errors.As(err, &fault) && (fault.At != 0 || fault.Path != "") {
				t.Errorf("Scan of %d bytes at %d tells the place %d, %q", len(s), at, fault.At, fault.Path)
			}
		}
		scanFails(t, s, len(s), len(s))
	}
}

// P10.3: at every place of any string.
func TestScanEverywhere(t *testing.T) {
	r := rule{41}
	for range 20000 {
		s := r.anyString(6)
		for at := range len(s) + 1 {
			sameAsReference(t, s, at)
		}
	}
}

// P10.3: literals one behind the other, with others between them, are scanned from place to place.
func TestScanAlong(t *testing.T) {
	r := rule{43}
	for range 2000 {
		var texts []string
		var all strings.Builder
		for range 1 + r.below(6) {
			texts = append(texts, r.text(6))
			all.WriteString(r.literal(texts[len(texts)-1]))
			all.WriteByte(r.wild())
		}
		at := 0
		for _, want := range texts {
			text, next, err := escape.Scan(all.String(), at)
			if text != want || err != nil {
				t.Errorf("Scan(%q, %d) = %q, %d, %v, want %q", all.String(), at, text, next, err, want)
			}
			at = next + 1
		}
		if at != all.Len() {
			t.Errorf("%q is scanned up to %d", all.String(), at)
		}
	}
}
