package digest

import (
	"bytes"
	"testing"
)

// P7.1

// The bits of a message of 2^29 bytes or more don't fit into 32 bits; such messages take seconds, so that their padding is tested alone.
func TestPaddingOfLongMessages(t *testing.T) {
	for _, c := range []struct {
		length uint64
		want   []byte
	}{
		{1<<29 - 1, []byte{0x80, 0, 0, 0, 0, 0xff, 0xff, 0xff, 0xf8}},
		{1<<29 - 9, []byte{0x80, 0, 0, 0, 0, 0xff, 0xff, 0xff, 0xb8}},
		{1<<29 + 55, []byte{0x80, 0, 0, 0, 1, 0, 0, 1, 0xb8}},
		{1<<31 - 1, []byte{0x80, 0, 0, 0, 3, 0xff, 0xff, 0xff, 0xf8}},
		{1<<31 - 9, []byte{0x80, 0, 0, 0, 3, 0xff, 0xff, 0xff, 0xb8}},
	} {
		got := padding(c.length)
		if (c.length+uint64(len(got)))%64 != 0 || len(got) < 9 || len(got) > 72 {
			t.Errorf("%d bytes are followed by %d", c.length, len(got))
			continue
		}
		want := append([]byte{0x80}, make([]byte, len(got)-9)...)
		want = append(want, c.want[1:]...)
		if !bytes.Equal(got, want) {
			t.Errorf("%d bytes are followed by %x, want %x", c.length, got, want)
		}
	}
}

func TestPaddingOfEveryLength(t *testing.T) {
	for length := range uint64(1000) {
		zeros := 0
		for (int(length)+1+zeros+8)%64 != 0 {
			zeros++
		}
		want := append([]byte{0x80}, make([]byte, zeros)...)
		want = append(want, 0, 0, 0, 0, 0, 0, byte(length*8>>8), byte(length*8))
		if got := padding(length); !bytes.Equal(got, want) {
			t.Errorf("%d bytes are followed by %x, want %x", length, got, want)
		}
	}
}

// An iterator stops when the loop over it is left.
func TestBlocksCanBeLeft(t *testing.T) {
	parts := [][]byte{make([]byte, 100), make([]byte, 100)}
	for left := 1; left <= 4; left++ {
		seen := 0
		for range blocks(parts) {
			seen++
			if seen == left {
				break
			}
		}
		if seen != left {
			t.Errorf("%d blocks, want %d", seen, left)
		}
	}
	for range padded(parts) {
		break
	}
}
