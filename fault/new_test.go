package fault_test

import (
	"fmt"
	"math"
	"testing"

	"crucible/fault"
)

// P13.3: the chapter's examples, and each number.
func TestNew(t *testing.T) {
	checkOne(t, "New(3, 7, /a)", fault.New(3, 7, "/a"), told{3, 7, "/a", true})
	for code := 1; code <= greatest; code++ {
		for _, at := range edges {
			for _, path := range []string{"", "/", "/a", "a", "~", "\xff\x00", "/x~1y~0z"} {
				checkOne(t, fmt.Sprintf("New(%d, %d, %q)", code, at, path), fault.New(code, at, path), told{code, at, path, true})
			}
		}
	}
}

// P13.3: nil of a number that is no error's.
func TestNewOfNone(t *testing.T) {
	codes := []int{math.MinInt, math.MinInt + 1, math.MinInt + 3, math.MaxInt, math.MaxInt - 1, 1 << 32, 1<<32 + 3, 1<<8 + 3, -1<<32 + 3}
	for code := -300; code <= 300; code++ {
		if code < 1 || code > greatest {
			codes = append(codes, code)
		}
	}
	for _, code := range codes {
		for _, at := range []int{0, 1, -1} {
			if err := fault.New(code, at, "/a"); err != nil {
				t.Errorf("New(%d, %d): %v", code, at, err)
			}
		}
	}
}
