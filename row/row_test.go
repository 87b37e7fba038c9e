package row_test

import (
	"bytes"
	"encoding/binary"
	"hash/fnv"
	"math"
	"math/big"
	"reflect"
	"slices"
	"strings"
	"testing"

	"weathercock/api"
	"weathercock/row"
	"weathercock/value"
)

// most is the number of values that the chapter allows a row.
const most = 100

var null = api.Value{}

func num(n int) api.Value { return api.Value{Kind: api.Int, N: n} }

func flag(n int) api.Value { return api.Value{Kind: api.Bool, N: n} }

func text(s string) api.Value { return api.Value{Kind: api.Text, S: s} }

func of(l ...api.Value) []api.Value { return l }

// repeat is a row of n times v.
func repeat(v api.Value, n int) []api.Value { return slices.Repeat(of(v), n) }

// ascending are valid values, each before the next one.
func ascending() []api.Value {
	return of(null,
		num(math.MinInt), num(-1<<32), num(-256), num(-1), num(0), num(1), num(255), num(256), num(1<<32), num(math.MaxInt),
		flag(0), flag(1),
		text(""), text("\x00"), text("\x00\x01"), text("a"), text("ab"), text("b"), text("é"), text("\xff"),
		text("\xff"+strings.Repeat("x", api.MaxBytes-1)))
}

// wrong are values that are not valid, each in one way.
func wrong() []api.Value {
	return of(
		api.Value{Kind: -1}, api.Value{Kind: 4}, api.Value{Kind: 256}, api.Value{Kind: 257, N: 1}, api.Value{Kind: math.MinInt},
		api.Value{N: 1}, api.Value{S: "a"},
		api.Value{Kind: api.Int, S: "a"},
		flag(2), flag(-1), flag(256), api.Value{Kind: api.Bool, S: "a"},
		api.Value{Kind: api.Text, N: 1}, text(strings.Repeat("a", api.MaxBytes+1)), text(strings.Repeat("a", 300)))
}

// rows are valid rows: of none to three values, and of as many as there may be.
func rows() [][]api.Value {
	l := [][]api.Value{nil, {}, repeat(null, most), repeat(text(strings.Repeat("z", api.MaxBytes)), most), ascending()}
	for _, a := range ascending() {
		l = append(l, of(a))
		for _, b := range ascending() {
			l = append(l, of(a, b), of(b, null, a))
		}
	}
	return l
}

// same reports whether two rows are the same, without a call of the package under test.
func same(a, b []api.Value) bool { return slices.Equal(a, b) }

// withWrong are rows with one value that is not valid: alone, first, last.
func withWrong() [][]api.Value {
	var l [][]api.Value
	for _, v := range wrong() {
		l = append(l, of(v), of(v, num(1)), of(num(1), null, v), append(repeat(null, most-1), v))
	}
	return l
}

// TestRight: P2.1, Right.
func TestRight(t *testing.T) {
	for _, r := range rows() {
		if !row.Right(r) {
			t.Error("valid", r)
		}
	}
	for _, r := range withWrong() {
		if row.Right(r) {
			t.Error("not valid", r)
		}
	}
	for n, want := range map[int]bool{0: true, 1: true, most - 1: true, most: true, most + 1: false, 1000: false} {
		if row.Right(repeat(num(7), n)) != want || row.Right(make([]api.Value, n)) != want {
			t.Error("values", n)
		}
	}
}

// TestCompareValues: P2.1, rows that differ at one index are in the order of the values there, whatever is behind it.
func TestCompareValues(t *testing.T) {
	l := append(wrong(), ascending()...)
	for _, a := range l {
		for _, b := range l {
			want := value.Compare(a, b)
			for _, pair := range [][2][]api.Value{
				{of(a), of(b)},
				{of(num(3), a), of(num(3), b)},
				{append(repeat(null, most+5), a), append(repeat(null, most+5), b)},
			} {
				if got := row.Compare(pair[0], pair[1]); got != want {
					t.Error(pair, got, want)
				}
			}
			if want == 0 {
				continue
			}
			if got := row.Compare(of(a, num(9), num(9)), of(b)); got != want {
				t.Error("a longer first one", a, b, got, want)
			}
			if got := row.Compare(of(a, num(1)), of(b, num(2))); got != want {
				t.Error("what is behind", a, b, got, want)
			}
			if got := row.Compare(of(a, num(2)), of(b, num(1))); got != want {
				t.Error("what is behind", a, b, got, want)
			}
		}
	}
}

// TestCompareLengths: P2.1, the shorter one of two rows comes first if nothing else tells.
func TestCompareLengths(t *testing.T) {
	for _, v := range append(wrong(), ascending()...) {
		for i := range 5 {
			for k := range 5 {
				want := 0
				if i < k {
					want = -1
				} else if i > k {
					want = 1
				}
				if got := row.Compare(repeat(v, i), repeat(v, k)); got != want {
					t.Error(v, i, k, got, want)
				}
			}
		}
	}
	if got := row.Compare(of(num(1)), of(num(1), null)); got != -1 {
		t.Error("the chapter's example", got)
	}
	if row.Compare(nil, []api.Value{}) != 0 || row.Compare([]api.Value{}, nil) != 0 {
		t.Error("nil and empty")
	}
}

// encoded is the encoding of a valid row, made by the library.
func encoded(r []api.Value) string {
	var b bytes.Buffer
	for _, v := range r {
		b.WriteByte(byte(v.Kind))
		switch v.Kind {
		case api.Int:
			binary.Write(&b, binary.BigEndian, int64(v.N))
		case api.Bool:
			b.WriteByte(byte(v.N))
		case api.Text:
			b.WriteByte(byte(len(v.S)))
			b.WriteString(v.S)
		}
	}
	return b.String()
}

// TestEncode: P2.2 and P2.4, the bytes of valid rows, and the row that they yield again.
func TestEncode(t *testing.T) {
	for _, r := range rows() {
		s, e := row.Encode(r)
		if s != encoded(r) || e != api.OK {
			t.Errorf("%v: %q %v", r, s, e)
		}
		if back, e := row.Decode(s); !same(back, r) || e != api.OK {
			t.Error("decoded", r, back, e)
		}
	}
}

// TestEncodeBytes: P2.2, bytes written down by hand.
func TestEncodeBytes(t *testing.T) {
	for want, r := range map[string][]api.Value{
		"": nil,
		"\x01\x00\x00\x00\x00\x00\x00\x00\x01\x02\x01\x03\x02ab\x00": of(num(1), flag(1), text("ab"), null),
		"\x01\xff\xff\xff\xff\xff\xff\xff\xfe":                       of(num(-2)),
		"\x01\x01\x23\x45\x67\x89\xab\xcd\xef":                       of(num(0x0123456789abcdef)),
		"\x01\x80\x00\x00\x00\x00\x00\x00\x00":                       of(num(math.MinInt)),
		"\x00\x00\x02\x00\x03\x00":                                   of(null, null, flag(0), text("")),
		"\x03\x03\x03\x00\xff":                                       of(text("\x03\x00\xff")),
	} {
		if s, e := row.Encode(r); s != want || e != api.OK {
			t.Errorf("%v: %q %v", r, s, e)
		}
		if back, e := row.Decode(want); !same(back, r) || e != api.OK {
			t.Errorf("%q: %v %v", want, back, e)
		}
	}
}

// TestEncodeWrong: P2.2, too many values are told before values that are not valid.
func TestEncodeWrong(t *testing.T) {
	refused := func(r []api.Value, want api.Errno) {
		t.Helper()
		if s, e := row.Encode(r); s != "" || e != want {
			t.Errorf("%d values: %q %v", len(r), s, e)
		}
	}
	for _, r := range withWrong() {
		refused(r, api.ErrArg)
	}
	for _, v := range append(wrong(), ascending()...) {
		refused(repeat(v, most+1), api.ErrLong)
		refused(repeat(v, 5000), api.ErrLong)
		refused(append(repeat(null, most), v), api.ErrLong)
	}
}

// TestDecodeWrong: P2.2, bytes that are no row's encoding.
func TestDecodeWrong(t *testing.T) {
	long := strings.Repeat("a", api.MaxBytes+1)
	bad := []string{
		"\x02\x02", "\x02\xff", "\x02", "\x04", "\xff", "\x01", "\x01\x00", "\x01\x00\x00\x00\x00\x00\x00\x00",
		"\x03", "\x03\x01", "\x03\x05ab", "\x03\x05abcd", "\x03\x29" + long, "\x03\xff" + strings.Repeat("a", 255), "\x03\x29",
		strings.Repeat("\x00", most+1), strings.Repeat("\x03\x00", most+1), strings.Repeat("\x00", 100000),
	}
	for _, s := range bad {
		if r, e := row.Decode(s); r != nil || e != api.ErrForm {
			t.Errorf("%q: %v %v", s, r, e)
		}
		if r, e := row.Decode("\x02\x01\x00" + s); r != nil || e != api.ErrForm {
			t.Errorf("behind others, %q: %v %v", s, r, e)
		}
	}
	if r, e := row.Decode(""); len(r) != 0 || e != api.OK {
		t.Error("the empty row", r, e)
	}
}

// TestDecodeCut: P2.2, of the beginnings of an encoding only those are decoded that end where a value ends.
func TestDecodeCut(t *testing.T) {
	r := of(num(-5), text("abc"), null, flag(1), text(""), num(1<<40))
	whole := encoded(r)
	ends := map[int]int{}
	for n := range len(r) + 1 {
		ends[len(encoded(r[:n]))] = n
	}
	for i := range len(whole) + 1 {
		back, e := row.Decode(whole[:i])
		n, ok := ends[i]
		if ok && (!same(back, r[:n]) || e != api.OK) || !ok && (back != nil || e != api.ErrForm) {
			t.Error(i, back, e)
		}
	}
}

// TestDecodeAll: P2.2 and P2.4, whatever short string is decoded is the encoding of the row that it yields.
func TestDecodeAll(t *testing.T) {
	var try func(s string, more int)
	try = func(s string, more int) {
		r, e := row.Decode(s)
		if e == api.OK && (!row.Right(r) || encoded(r) != s) || e != api.OK && (r != nil || e != api.ErrForm) {
			t.Fatalf("%q: %v %v", s, r, e)
		}
		if more == 0 {
			return
		}
		for _, c := range []byte{0, 1, 2, 3, 4, 40, 41, 255} {
			try(s+string([]byte{c}), more-1)
		}
	}
	try("", 6)
}

// TestHash: P2.3, the numbers of a value are processed in their order, with numbers of any size as the measure.
func TestHash(t *testing.T) {
	word := new(big.Int).Lsh(big.NewInt(1), 64)
	slow := func(r []api.Value) uint64 {
		h, _ := new(big.Int).SetString("14695981039346656037", 10)
		step := func(n int) {
			x := new(big.Int).Mod(big.NewInt(int64(n)), word)
			h.Xor(h, x).Mul(h, big.NewInt(1099511628211)).Mod(h, word)
		}
		for _, v := range r {
			step(v.Kind)
			step(v.N)
			step(len(v.S))
			for _, c := range []byte(v.S) {
				step(int(c))
			}
		}
		return h.Uint64()
	}
	for _, r := range slices.Concat(rows(), withWrong(), [][]api.Value{repeat(num(5), most+1), repeat(text("ab"), 1000)}) {
		if got, want := row.Hash(r), slow(r); got != want {
			t.Error(r, got, want)
		}
	}
}

// TestHashSmall: P2.3, where all numbers are below 256 the hash is the FNV-1a hash of them as bytes.
func TestHashSmall(t *testing.T) {
	for want, r := range map[string][]api.Value{
		"":                             {},
		"\x00\x00\x00":                 of(null),
		"\x01\x05\x00":                 of(num(5)),
		"\x02\x01\x00":                 of(flag(1)),
		"\x03\x00\x02ab":               of(text("ab")),
		"\x03\x00\x01\xff\x01\xff\x00": of(text("\xff"), num(255)),
		"\x09\x08\x01a":                of(api.Value{Kind: 9, N: 8, S: "a"}),
	} {
		h := fnv.New64a()
		h.Write([]byte(want))
		if got := row.Hash(r); got != h.Sum64() {
			t.Errorf("%v: %d, %d", r, got, h.Sum64())
		}
	}
	if row.Hash(nil) != 14695981039346656037 {
		t.Error("of no value")
	}
}

// TestHashEqual: P2.4, equal rows have equal hash values, wherever their texts lie.
func TestHashEqual(t *testing.T) {
	for _, r := range rows() {
		other := slices.Clone(r)
		for i := range other {
			other[i].S = strings.Clone(other[i].S)
		}
		if row.Hash(other) != row.Hash(r) {
			t.Error(r)
		}
	}
}

// permutations calls f with each order of l.
func permutations(l [][]api.Value, f func(l [][]api.Value)) {
	var swap func(i int)
	swap = func(i int) {
		if i == len(l) {
			f(slices.Clone(l))
		}
		for k := i; k < len(l); k++ {
			l[i], l[k] = l[k], l[i]
			swap(i + 1)
			l[i], l[k] = l[k], l[i]
		}
	}
	swap(0)
}

// TestSort: P2.3 and P2.4, each order of a list yields the same one.
func TestSort(t *testing.T) {
	want := [][]api.Value{
		{}, {{Kind: -1}}, {null}, {null, num(9)}, {num(1)}, {num(1), null}, {num(1), num(1)}, {flag(0)},
	}
	permutations(slices.Clone(want), func(l [][]api.Value) {
		if got := row.Sort(l); !reflect.DeepEqual(got, want) {
			t.Fatal(l, got)
		}
	})
	want = [][]api.Value{{}, {}, {num(1)}, {num(1)}, {num(1)}, {text("a")}, {text("a")}}
	permutations(slices.Clone(want), func(l [][]api.Value) {
		if got := row.Sort(l); !reflect.DeepEqual(got, want) {
			t.Fatal(l, got)
		}
	})
}

// TestSortLong: P2.3, lists of many rows, with many that are equal, and of none.
func TestSortLong(t *testing.T) {
	l := append(slices.Concat(rows(), withWrong(), rows(), rows()), repeat(null, 200))
	got := row.Sort(l)
	if len(got) != len(l) {
		t.Fatal(len(got), len(l))
	}
	count := map[string]int{}
	for _, r := range l {
		count[rough(r)]++
	}
	for i, r := range got {
		count[rough(r)]--
		if i > 0 && row.Compare(got[i-1], r) > 0 {
			t.Error(i, got[i-1], r)
		}
	}
	for s, n := range count {
		if n != 0 {
			t.Errorf("%q: %d", s, n)
		}
	}
	slices.Reverse(l)
	if !reflect.DeepEqual(row.Sort(l), got) {
		t.Error("the other way round")
	}
	if len(row.Sort(nil)) != 0 || len(row.Sort([][]api.Value{})) != 0 {
		t.Error("no rows")
	}
	if one := row.Sort([][]api.Value{nil}); len(one) != 1 || len(one[0]) != 0 {
		t.Error("one empty row", one)
	}
}

// rough is a text that tells rows apart, valid or not.
func rough(r []api.Value) string {
	var b bytes.Buffer
	for _, v := range r {
		binary.Write(&b, binary.BigEndian, [3]int64{int64(v.Kind), int64(v.N), int64(len(v.S))})
		b.WriteString(v.S)
	}
	return b.String()
}

// TestMemory: P3, arguments stay as they are, also behind their length, and results share no memory with them or with each other.
func TestMemory(t *testing.T) {
	make3 := func() [][]api.Value {
		l := make([][]api.Value, 0, 5)
		for i := range 5 {
			r := append(make([]api.Value, 0, 4), num(5-i), text("x"), num(77))
			l = append(l, r[:2])
		}
		return l[:3]
	}
	l := make3()
	row.Encode(l[0])
	row.Hash(l[0])
	row.Right(l[0])
	row.Compare(l[0], l[1])
	first, second := row.Sort(l), row.Sort(l)
	if !reflect.DeepEqual(l[:5], make3()[:5]) {
		t.Error("the list was changed", l[:5])
	}
	for _, r := range l[:5] {
		if r[:3][2] != num(77) {
			t.Error("behind the length of a row", r[:3])
		}
	}
	want := make3()
	slices.Reverse(want)
	spoil(first)
	if !reflect.DeepEqual(second, want) {
		t.Error("results share memory", second)
	}
	if !reflect.DeepEqual(l[:5], make3()[:5]) || l[0][:3][2] != num(77) {
		t.Error("a result shares memory with the argument", l[:5])
	}
}

// spoil writes over all that l gives, spare capacity too.
func spoil(l [][]api.Value) {
	for i := range l {
		r := l[i][:cap(l[i])]
		for k := range r {
			r[k] = num(-99)
		}
	}
	l = l[:cap(l)]
	for i := range l {
		l[i] = nil
	}
}

// TestMemoryRows: P3, no two rows of one result of Sort share memory, not even when the argument's rows do.
func TestMemoryRows(t *testing.T) {
	r := of(num(1), num(2))
	l := row.Sort([][]api.Value{r, r, r[:1]})
	for i := range l {
		l[i] = append(l[i], num(3))
		l[i][0] = num(10 + i)
	}
	want := [][]api.Value{{num(10), num(3)}, {num(11), num(2), num(3)}, {num(12), num(2), num(3)}}
	if !reflect.DeepEqual(l, want) || !same(r, of(num(1), num(2))) {
		t.Error(l, r)
	}
}

// TestDecodeMemory: P3, each call of Decode yields memory of its own.
func TestDecodeMemory(t *testing.T) {
	s := encoded(ascending())
	a, _ := row.Decode(s)
	b, _ := row.Decode(s)
	for i := range a[:cap(a)] {
		a[:cap(a)][i] = num(-99)
	}
	if !same(b, ascending()) {
		t.Error(b)
	}
}
