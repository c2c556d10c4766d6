package chacha

import "testing"

// RFC 8439, 2.1.1.
func TestQuarter(t *testing.T) {
	a, b, c, d := quarter(0x11111111, 0x01020304, 0x9b8d6f43, 0x01234567)
	if got, want := [4]uint32{a, b, c, d}, [4]uint32{0xea2a92f4, 0xcb1cf8ce, 0x4581472e, 0x5881c4bb}; got != want {
		t.Errorf("%x, not %x", got, want)
	}
}

// RFC 8439, 2.2.1: the other numbers stay.
func TestQuarterOfNumbers(t *testing.T) {
	x := numbers{
		0x879531e0, 0xc5ecf37d, 0x516461b1, 0xc9a62f8a,
		0x44c20ef3, 0x3390af7f, 0xd9fc690b, 0x2a5f714c,
		0x53372767, 0xb00a5631, 0x974c541a, 0x359e9963,
		0x5c971061, 0x3d631689, 0x2098d9d6, 0x91dbd320,
	}
	want := numbers{
		0x879531e0, 0xc5ecf37d, 0xbdb886dc, 0xc9a62f8a,
		0x44c20ef3, 0x3390af7f, 0xd9fc690b, 0xcfacafd2,
		0xe46bea80, 0xb00a5631, 0x974c541a, 0x359e9963,
		0x5c971061, 0xccc07c79, 0x2098d9d6, 0x91dbd320,
	}
	x.quarter(2, 7, 8, 13)
	if x != want {
		t.Errorf("%x, not %x", x, want)
	}
}

// RFC 8439, 2.3.2: the numbers of a key, a counter and a nonce, and what ten
// times columns and slopes make of them.
func TestNumbers(t *testing.T) {
	key := make([]byte, 32)
	for i := range key {
		key[i] = byte(i)
	}
	x := begun(key, []byte{0, 0, 0, 9, 0, 0, 0, 0x4a, 0, 0, 0, 0})
	want := numbers{
		0x61707865, 0x3320646e, 0x79622d32, 0x6b206574,
		0x03020100, 0x07060504, 0x0b0a0908, 0x0f0e0d0c,
		0x13121110, 0x17161514, 0x1b1a1918, 0x1f1e1d1c,
		0x00000000, 0x09000000, 0x4a000000, 0x00000000,
	}
	if x != want {
		t.Errorf("at first %x, not %x", x, want)
	}
	x[counterAt/4] = 1
	for range 10 {
		x = x.columns().slopes()
	}
	want = numbers{
		0x837778ab, 0xe238d763, 0xa67ae21e, 0x5950bb2f,
		0xc4f2d0c7, 0xfc62bb2f, 0x8fa018fc, 0x3f5ec7b7,
		0x335271c2, 0xf29489f3, 0xeabda8fc, 0x82e46ebd,
		0xd19c12b4, 0xb04e16de, 0x9e83d0cb, 0x4e3c50a2,
	}
	if x != want {
		t.Errorf("at last %x, not %x", x, want)
	}
}

// Columns stay columns: a number turned is told in its own one alone. Slopes
// are told in theirs.
func TestColumnsAndSlopes(t *testing.T) {
	for i := range 16 {
		var x numbers
		x[i] = 1
		columns, slopes := x.columns(), x.slopes()
		for j := range 16 {
			if (columns[j] != 0) != (i%4 == j%4) {
				t.Errorf("number %d in the columns: number %d is %x", i, j, columns[j])
			}
			// A slope begins in its first row, and is one further in each row below.
			if (slopes[j] != 0) != ((i-i/4)%4 == (j-j/4)%4) {
				t.Errorf("number %d in the slopes: number %d is %x", i, j, slopes[j])
			}
		}
	}
}
