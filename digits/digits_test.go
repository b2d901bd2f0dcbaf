package digits

import (
	"fmt"
	"strings"
	"testing"
)

func TestReadAndWrite(t *testing.T) {
	for i := 0; i < 1000; i++ {
		three := fmt.Sprintf("%03d", i)
		if got := Three(i); got != three {
			t.Fatalf("Three(%d) = %q", i, got)
		}
		if got, good := Read(three); got != i || !good {
			t.Fatalf("Read(%q) = %d, %v", three, got, good)
		}
		if i > 99 {
			continue
		}
		two := fmt.Sprintf("%02d", i)
		if got := Two(i); got != two {
			t.Fatalf("Two(%d) = %q", i, got)
		}
		if got, good := Read(two); got != i || !good {
			t.Fatalf("Read(%q) = %d, %v", two, got, good)
		}
	}
	if got, good := Read("7"); got != 7 || !good {
		t.Errorf("Read of one digit: %d, %v", got, good)
	}
}

func TestReadOfWhatIsNoNumber(t *testing.T) {
	bad := []string{
		"", "0000", "x", "0x", "x0", "00x", "0x0", "/", ":", "0:", "/0", " 1", "1 ", "+1", "-1", "1.", "\x00", "\xb1", "١",
		strings.Repeat("9", 1<<20),
	}
	for _, text := range bad {
		if got, good := Read(text); got != 0 || good {
			t.Errorf("Read(%.20q) = %d, %v", text, got, good)
		}
	}
}
