package codec_test

import (
	"math"
	"math/big"
	"math/rand"
	"reflect"
	"strings"
	"testing"

	"larder/api"
	"larder/codec"
)

// thing is one of the four that codec writes and reads, whatever its type.
type thing struct {
	name string
	key  byte
	most int
	zero any
	put  func(any) ([]byte, api.Errno)
	read func([]byte) (any, api.Errno, int)
}

func thingOf[T any](name string, key byte, most int, put func(T) ([]byte, api.Errno), read func([]byte) (T, api.Errno, int)) thing {
	var zero T
	return thing{
		name, key, most, zero,
		func(x any) ([]byte, api.Errno) { return put(x.(T)) },
		func(b []byte) (any, api.Errno, int) {
			x, e, place := read(b)
			return x, e, place
		},
	}
}

func things() []thing {
	return []thing{
		thingOf("request", 81, 4096, codec.PutRequest, codec.Request),
		thingOf("reply", 82, 4096, codec.PutReply, codec.Reply),
		thingOf("record", 83, 4096, codec.PutRecord, codec.Record),
		thingOf("state", 84, 131072, codec.PutState, codec.State),
	}
}

// field is an int, a text or a list's number, as bytes. The fields of api's types stand in the order of section 9.1, so that a thing's form can be had by going over its type.
type field struct {
	kind  byte
	bytes string
}

const (
	anInt    = 'i'
	aText    = 't'
	aListNum = 'n'
)

// groups writes a number by dividing it, other than the program does.
func groups(n *big.Int) string {
	var b []byte
	rest, group := new(big.Int).Set(n), new(big.Int)
	for {
		rest.DivMod(rest, big.NewInt(128), group)
		if rest.Sign() == 0 {
			return string(append(b, byte(group.Int64())))
		}
		b = append(b, byte(group.Int64())+128)
	}
}

func number(n int) string { return groups(big.NewInt(int64(n))) }

func intNumber(n int64) string {
	u := new(big.Int).Mul(big.NewInt(n), big.NewInt(2))
	if n < 0 {
		u.Neg(u).Sub(u, big.NewInt(1))
	}
	return groups(u)
}

func fieldsOf(v reflect.Value) []field {
	switch v.Kind() {
	case reflect.String:
		return []field{{aText, number(v.Len()) + v.String()}}
	case reflect.Int:
		return []field{{anInt, intNumber(v.Int())}}
	case reflect.Slice:
		l := []field{{aListNum, number(v.Len())}}
		for i := range v.Len() {
			l = append(l, fieldsOf(v.Index(i))...)
		}
		return l
	}
	var l []field
	for i := range v.NumField() {
		l = append(l, fieldsOf(v.Field(i))...)
	}
	return l
}

func joined(key byte, l []field) []byte {
	b := []byte{key}
	for _, f := range l {
		b = append(b, f.bytes...)
	}
	return b
}

// bytesOf is what x should be written as, had there been no limit.
func bytesOf(th thing, x any) []byte {
	return joined(th.key, fieldsOf(reflect.ValueOf(x)))
}

// slowReader reads by a thing's type, in big numbers.
type slowReader struct {
	b     []byte
	at    int
	most  int
	err   api.Errno
	place int
}

func (s *slowReader) fail(e api.Errno, place int) bool {
	s.err, s.place = e, place
	return false
}

func (s *slowReader) number() (*big.Int, bool) {
	n := new(big.Int)
	for i := 0; ; i++ {
		if s.at+i >= len(s.b) {
			return nil, s.fail(api.ErrShort, len(s.b))
		}
		c := s.b[s.at+i]
		if i == 9 && c > 1 {
			return nil, s.fail(api.ErrWide, s.at+i)
		}
		if i > 0 && c == 0 {
			return nil, s.fail(api.ErrForm, s.at+i)
		}
		n.Add(n, new(big.Int).Lsh(big.NewInt(int64(c%128)), uint(7*i)))
		if c < 128 {
			s.at += i + 1
			return n, true
		}
	}
}

func (s *slowReader) size(tooMuch api.Errno) (int, bool) {
	place := s.at
	n, ok := s.number()
	if !ok {
		return 0, false
	}
	if n.Cmp(big.NewInt(int64(s.most))) > 0 {
		return 0, s.fail(tooMuch, place)
	}
	return int(n.Int64()), true
}

func (s *slowReader) fill(v reflect.Value) bool {
	switch v.Kind() {
	case reflect.String:
		n, ok := s.size(api.ErrLength)
		if !ok {
			return false
		}
		if s.at+n > len(s.b) {
			return s.fail(api.ErrShort, len(s.b))
		}
		v.SetString(string(s.b[s.at : s.at+n]))
		s.at += n
		return true
	case reflect.Int:
		n, ok := s.number()
		if !ok {
			return false
		}
		half, odd := new(big.Int).DivMod(n, big.NewInt(2), new(big.Int))
		if odd.Sign() != 0 {
			half.Neg(half).Sub(half, big.NewInt(1))
		}
		v.SetInt(half.Int64())
		return true
	case reflect.Slice:
		n, ok := s.size(api.ErrCount)
		for i := 0; ok && i < n; i++ {
			one := reflect.New(v.Type().Elem()).Elem()
			ok = s.fill(one)
			v.Set(reflect.Append(v, one))
		}
		return ok
	}
	for i := range v.NumField() {
		if !s.fill(v.Field(i)) {
			return false
		}
	}
	return true
}

// slowRead is what th.read(b) should answer.
func slowRead(th thing, b []byte) (any, api.Errno, int) {
	switch {
	case len(b) > th.most:
		return th.zero, api.ErrLong, 0
	case len(b) == 0:
		return th.zero, api.ErrShort, 0
	case b[0] != th.key:
		return th.zero, api.ErrKey, 0
	}
	s := slowReader{b: b, at: 1, most: th.most}
	v := reflect.New(reflect.TypeOf(th.zero)).Elem()
	if !s.fill(v) {
		return th.zero, s.err, s.place
	}
	if s.at < len(b) {
		return th.zero, api.ErrTail, s.at
	}
	return v.Interface(), api.OK, 0
}

// alike: equal, a nil list and an empty one being the same (R3).
func alike(a, b reflect.Value) bool {
	switch a.Kind() {
	case reflect.String:
		return a.String() == b.String()
	case reflect.Int:
		return a.Int() == b.Int()
	case reflect.Slice:
		if a.Len() != b.Len() {
			return false
		}
		for i := range a.Len() {
			if !alike(a.Index(i), b.Index(i)) {
				return false
			}
		}
		return true
	}
	for i := range a.NumField() {
		if !alike(a.Field(i), b.Field(i)) {
			return false
		}
	}
	return true
}

func same(a, b any) bool { return alike(reflect.ValueOf(a), reflect.ValueOf(b)) }

func shown(b []byte) []byte { return b[:min(len(b), 60)] }

func wantPut(t *testing.T, th thing, x any, want []byte) {
	t.Helper()
	if b, e := th.put(x); string(b) != string(want) || e != api.OK {
		t.Errorf("%s: writing %.200v: %d bytes, %x, error %d; want %d bytes, %x", th.name, x, len(b), shown(b), e, len(want), shown(want))
	}
}

func wantPutLong(t *testing.T, th thing, x any) {
	t.Helper()
	if b, e := th.put(x); len(b) != 0 || e != api.ErrLong {
		t.Errorf("%s: writing %.200v: %d bytes, error %d; want ErrLong", th.name, x, len(b), e)
	}
}

func wantRead(t *testing.T, th thing, b []byte, want any) {
	t.Helper()
	if x, e, place := th.read(b); !same(x, want) || e != api.OK || place != 0 {
		t.Errorf("%s: reading %d bytes, %x: %.200v, error %d at %d; want %.200v", th.name, len(b), shown(b), x, e, place, want)
	}
}

func wantFault(t *testing.T, th thing, why string, b []byte, wantE api.Errno, wantAt int) {
	t.Helper()
	if x, e, place := th.read(b); !same(x, th.zero) || e != wantE || place != wantAt {
		t.Errorf("%s: %s: reading %d bytes, %x: %.200v, error %d at %d; want error %d at %d", th.name, why, len(b), shown(b), x, e, place, wantE, wantAt)
	}
}

// made is a new thing of th's type that fill filled.
func made(th thing, fill func(reflect.Value)) any {
	v := settable(th, th.zero)
	fill(v)
	return v.Interface()
}

// filled has in each list so many elements, texts and ints that are all different.
func filled(th thing, elements int) any {
	next := 0
	var fill func(v reflect.Value)
	fill = func(v reflect.Value) {
		next++
		switch v.Kind() {
		case reflect.String:
			v.SetString(strings.Repeat("x", next%3) + string(rune('a'+next%26)))
		case reflect.Int:
			v.SetInt(int64(next) * 71)
		case reflect.Slice:
			v.Set(reflect.MakeSlice(v.Type(), elements, elements))
			for i := range elements {
				fill(v.Index(i))
			}
		default:
			for i := range v.NumField() {
				fill(v.Field(i))
			}
		}
	}
	return made(th, fill)
}

// leaves are all parts of v, at any depth, of a kind.
func leaves(v reflect.Value, kind reflect.Kind) []reflect.Value {
	var l []reflect.Value
	if v.Kind() == kind {
		l = append(l, v)
	}
	switch v.Kind() {
	case reflect.Slice:
		for i := range v.Len() {
			l = append(l, leaves(v.Index(i), kind)...)
		}
	case reflect.Struct:
		for i := range v.NumField() {
			l = append(l, leaves(v.Field(i), kind)...)
		}
	}
	return l
}

// eachPart goes over filled things, each time a new one, with one part of a kind, each part in turn.
func eachPart(th thing, kind reflect.Kind, see func(v, part reflect.Value)) {
	for i := range leaves(reflect.ValueOf(filled(th, 2)), kind) {
		v := settable(th, filled(th, 2))
		see(v, leaves(v, kind)[i])
	}
}

// changed goes over filled things of which one part of a kind was changed by set, each part in turn.
func changed(th thing, kind reflect.Kind, set func(reflect.Value), see func(x any)) {
	eachPart(th, kind, func(v, part reflect.Value) {
		set(part)
		see(v.Interface())
	})
}

// settable is x as a value that can be changed; its lists stay x's.
func settable(th thing, x any) reflect.Value {
	v := reflect.New(reflect.TypeOf(th.zero)).Elem()
	v.Set(reflect.ValueOf(x))
	return v
}

func edgeInts() []int64 {
	l := []int64{0, math.MinInt64, math.MinInt64 + 1, math.MaxInt64, math.MaxInt64 - 1, -1, 1}
	for bits := 6; bits < 63; bits += 7 {
		n := int64(1) << bits
		l = append(l, n-1, n, -n, -n-1)
	}
	return l
}

func randomText(r *rand.Rand) string {
	b := make([]byte, []int{0, 1, 2, 5, 40, 130}[r.Intn(6)])
	for i := range b {
		b[i] = byte(r.Intn(256))
	}
	return string(b)
}

func randomInt(r *rand.Rand) int64 {
	if r.Intn(2) == 0 {
		l := edgeInts()
		return l[r.Intn(len(l))]
	}
	return int64(r.Uint64()) >> r.Intn(64)
}

// randomThing is small enough to be written.
func randomThing(r *rand.Rand, th thing) any {
	var fill func(v reflect.Value)
	fill = func(v reflect.Value) {
		switch v.Kind() {
		case reflect.String:
			v.SetString(randomText(r))
		case reflect.Int:
			v.SetInt(randomInt(r))
		case reflect.Slice:
			for range r.Intn(4) {
				one := reflect.New(v.Type().Elem()).Elem()
				fill(one)
				v.Set(reflect.Append(v, one))
			}
		default:
			for i := range v.NumField() {
				fill(v.Field(i))
			}
		}
	}
	return made(th, fill)
}

func together(parts ...string) []byte { return []byte(strings.Join(parts, "")) }

func thingFields(x any) []field { return fieldsOf(reflect.ValueOf(x)) }
