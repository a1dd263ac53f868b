package press

import (
	"encoding/hex"
	"strings"
	"testing"

	"colonnade/api"
)

// unhex reads bytes in hexadecimal.
func unhex(t *testing.T, s string) []byte {
	t.Helper()
	b, err := hex.DecodeString(strings.ReplaceAll(s, " ", ""))
	if err != nil {
		t.Fatal(err)
	}
	return b
}

// P6.1
func TestPackExamples(t *testing.T) {
	for _, c := range []struct {
		how     int
		b, want string
		e       api.Errno
	}{
		{1, "", "", 0},
		{1, "aaab", "80 61 00 62", 0},
		{1, "abccdddd", "03 61 62 63 63 81 64", 0},
		{1, strings.Repeat("a", 131), "ff 61 00 61", 0},
		{1, strings.Repeat("a", 132), "ff 61 01 61 61", 0},
		{2, "abcd", "03 61 62 63 64", 0},
		{2, "abcdabcd", "03 61 62 63 64 80 03 00", 0},
		{2, "aaaaaa", "00 61 81 00 00", 0},
		{2, "abcabcabcx", "02 61 62 63 82 02 00 00 78", 0},
		{0, "", "", 0},
		{2, "", "", 0},
		{0, "ab", "61 62", 0},
		{3, "a", "", 1},
		{-1, "", "", 1},
	} {
		if p, e := Pack(c.how, []byte(c.b)); string(p) != string(unhex(t, c.want)) || e != c.e {
			t.Errorf("Pack(%d, %q) = %x, %d", c.how, c.b, p, e)
		}
	}
}

// P6.2
func TestUnpackExamples(t *testing.T) {
	for _, c := range []struct {
		how  int
		p    string
		raw  int
		want string
		e    api.Errno
	}{
		{1, "80 61 00 62", 4, "aaab", 0},
		{1, "80 61 00 62", 3, "", 61},
		{1, "80 61 00 62", 5, "", 62},
		{1, "01 61", 2, "", 60},
		{1, "80", 0, "", 60},
		{1, "80 61 05", 2, "", 61},
		{2, "00 61 80 01 00", 5, "", 63},
		{2, "00 61 80 00 00", 5, "aaaaa", 0},
		{0, "61 62", 2, "ab", 0},
		{0, "61 62", 1, "", 61},
		{0, "61 62", 3, "", 62},
		{1, "", 0, "", 0},
		{1, "", -1, "", 1},
		{1, "", 65537, "", 4},
	} {
		if b, e := Unpack(c.how, unhex(t, c.p), c.raw); string(b) != c.want || e != c.e {
			t.Errorf("Unpack(%d, %s, %d) = %q, %d", c.how, c.p, c.raw, b, e)
		}
	}
}

// P6.3
func TestSizeExamples(t *testing.T) {
	if n, e := Size(2, unhex(t, "00 61 80 00 00")); n != 5 || e != 0 {
		t.Error(n, e)
	}
	if n, e := Size(1, unhex(t, "00")); n != 0 || e != 60 {
		t.Error(n, e)
	}
}
