package schema_test

import (
	"bytes"
	"testing"

	"bushel/api"
	"bushel/schema"
)

// checkPut fails if Put does not return these bytes.
func checkPut(t *testing.T, s api.Schema, want []byte) {
	t.Helper()
	if got, errno := schema.Put(s); !bytes.Equal(got, want) || errno != api.OK {
		t.Errorf("Put of %s = %d, %d; want %d, 0", text(s), got, errno, want)
	}
}

// answer is a schema and its encoding.
type answer struct {
	s    api.Schema
	want []byte
}

// written holds encodings written out.
func written() []answer {
	return []answer{
		{example(), []byte{1, 2, 97, 0, 0, 1, 2, 98, 0, 0, 1, 3, 0, 0, 1, 1, 1, 1}},
		{api.Schema{Dims: []api.Dim{{Name: "a", Size: 1}}}, []byte{1, 1, 97, 0, 0, 1, 1, 0, 0, 0}},
		{api.Schema{Dims: []api.Dim{{Name: "a", Size: 256}}, Views: []uint32{0}}, []byte{1, 1, 97, 0, 0, 2, 1, 0, 0, 0, 1, 1, 0}},
		{
			api.Schema{Dims: []api.Dim{{Name: "x_1", Size: 4096}}, Ints: []string{"i"}, Nums: []string{"nn", "m"}, Views: []uint32{0}},
			[]byte{1, 1, 120, 95, 49, 0, 0, 2, 16, 0, 1, 1, 105, 0, 0, 1, 2, 110, 110, 0, 0, 109, 0, 0, 1, 1, 0},
		},
		{
			api.Schema{Dims: dims(9, 8, 7), Ints: named("i", 3), Views: []uint32{0, 3, 6}},
			[]byte{1, 3, 100, 48, 0, 0, 1, 9, 100, 49, 0, 0, 1, 8, 100, 50, 0, 0, 1, 7, 1, 3, 105, 48, 0, 0, 105, 49, 0, 0, 105, 50, 0, 0, 0, 1, 3, 0, 1, 3, 1, 6},
		},
	}
}

// Promise 11.3: encodings written out.
func TestPutWritten(t *testing.T) {
	for _, c := range written() {
		checkPut(t, c.s, c.want)
	}
}

// Promise 11.3: valid schemas of all kinds.
func TestPut(t *testing.T) {
	for _, s := range samples() {
		checkPut(t, s, definePut(s))
	}
	m := mixer(13)
	for range 3000 {
		s := m.valid()
		checkPut(t, s, definePut(s))
	}
}

// Promise 11.3: of a schema that is not valid Put returns the error alone.
func TestPutInvalid(t *testing.T) {
	for _, c := range []struct {
		want api.Errno
		s    api.Schema
	}{
		{api.ErrMany, api.Schema{}},
		{api.ErrMany, api.Schema{Dims: dims(1, 1, 1, 1, 1, 1, 1)}},
		{api.ErrMany, api.Schema{Dims: dims(1), Ints: named("i", 4)}},
		{api.ErrName, api.Schema{Dims: []api.Dim{{Size: 2}}}},
		{api.ErrName, api.Schema{Dims: dims(1), Nums: []string{"sum"}}},
		{api.ErrTwice, api.Schema{Dims: dims(1), Nums: []string{"d0"}}},
		{api.ErrRange, api.Schema{Dims: dims(1, 0)}},
		{api.ErrRange, api.Schema{Dims: dims(1, -1)}},
		{api.ErrRange, api.Schema{Dims: dims(4097)}},
		{api.ErrForm, api.Schema{Dims: dims(1), Views: []uint32{1}}},
		{api.ErrForm, api.Schema{Dims: dims(1, 1), Views: []uint32{2, 1}}},
	} {
		checkError(t, c.s, c.want)
	}
}
