package effect

import (
	"encoding/binary"
	"fmt"
	"math/rand"
	"testing"

	"covenant/api"
	"covenant/space"
	"covenant/value"
)

// modelMayBe says by the chapter's words, kind by kind, whether an effect may be.
func modelMayBe(x api.Effect) bool {
	v := x.Value
	zero := v.Kind == 0 && v.Text == "" && len(v.List) == 0 && len(v.Fields) == 0 && len(v.Ranked) == 0
	switch x.Kind {
	case 1:
		return space.New().Put("", v, 0) == 0 && 0 <= x.Due && x.Due <= 9007199254740992
	case 2:
		return zero && x.Due == 0
	case 3:
		return zero && 0 <= x.Due && x.Due <= 9007199254740992
	case 4:
		return zero && x.Due == 0 && x.Key == ""
	}
	return false
}

// modelBytes is the bytes of an effect that may be, by the chapter's words.
func modelBytes(x api.Effect) string {
	if x.Kind == 4 {
		return "\x04"
	}
	out := binary.LittleEndian.AppendUint64([]byte{byte(x.Kind)}, uint64(len(x.Key)))
	out = append(out, x.Key...)
	if x.Kind != 2 {
		out = binary.LittleEndian.AppendUint64(out, uint64(x.Due))
	}
	if x.Kind == 1 {
		bytes, _ := value.Encode(x.Value)
		out = append(out, bytes...)
	}
	return string(out)
}

// modelRead is the effects that bytes are of, told another way: each kind's bytes are cut off the front, if they are there.
func modelRead(s string) ([]api.Effect, bool) {
	var l []api.Effect
	for s != "" {
		x := api.Effect{Kind: int(s[0])}
		s = s[1:]
		if x.Kind != 4 {
			if len(s) < 8 {
				return nil, false
			}
			n := binary.LittleEndian.Uint64([]byte(s))
			s = s[8:]
			if n > uint64(len(s)) {
				return nil, false
			}
			x.Key, s = s[:n], s[n:]
		}
		if x.Kind == 1 || x.Kind == 3 {
			if len(s) < 8 {
				return nil, false
			}
			x.Due = int(binary.LittleEndian.Uint64([]byte(s)))
			s = s[8:]
		}
		if x.Kind == 1 {
			v, n, e := value.Decode(s)
			if e != 0 {
				return nil, false
			}
			x.Value, s = v, s[n:]
		}
		if !modelMayBe(x) {
			return nil, false
		}
		l = append(l, x)
	}
	return l, true
}

// likeModel fails unless Decode tells of some bytes what the model does, and Encode, where they are taken, writes them again. It says whether they were taken.
func likeModel(t *testing.T, s string) bool {
	t.Helper()
	l, e := Decode(s)
	want, ok := modelRead(s)
	if !ok {
		if len(l) != 0 || e != api.ErrEffect {
			t.Errorf("Decode(%.120q): %s, %d", s, show(l), e)
		}
		return false
	}
	if !same(l, want) || e != api.OK {
		t.Errorf("Decode(%.120q): %s, %d, not %s", s, show(l), e, show(want))
	}
	if again, e := Encode(l); again != s || e != api.OK {
		t.Errorf("Encode(Decode(%.120q)): %.120q, %d", s, again, e)
	}
	return true
}

// short is effects whose bytes are few.
func short() []api.Effect {
	l := []api.Effect{aClear(), aDrop(""), aDrop("a"), aDrop("\x04\x04"), aDue("", 0), aDue("a", 1), aDue("ab", top), aPut("", aText(""), 0)}
	for _, v := range kinds() {
		l = append(l, aPut("a", v, 5))
	}
	return l
}

// P16.1, P16.4: the bytes of two effects, with any one byte changed to any other, gone, or one more, are read as the model reads them.
func TestSpoiltBytes(t *testing.T) {
	taken := 0
	try := func(s string) {
		if likeModel(t, s) {
			taken++
		}
	}
	for _, x := range short() {
		s := modelBytes(x)
		for i := range s {
			try(s[:i] + s[i+1:])
			for b := range 256 {
				try(s[:i] + string([]byte{byte(b)}) + s[i+1:])
			}
		}
		for i := range len(s) + 1 {
			for b := range 256 {
				try(s[:i] + string([]byte{byte(b)}) + s[i:])
			}
		}
		for _, y := range short() {
			both := s + modelBytes(y)
			for i := range both {
				for _, b := range []byte{0, 1, 2, 4, 255} {
					try(both[:i] + string([]byte{b}) + both[i+1:])
				}
				try(both[:i] + both[i+1:])
			}
		}
	}
	if taken < 1000 {
		t.Errorf("only %d were taken", taken)
	}
}

// P16.1: all short rows of pieces that bytes of effects are made of, whether they come together to some or not.
func TestRowsOfPieces(t *testing.T) {
	bytes, _ := value.Encode(aText("x"))
	list, _ := value.Encode(aList("a"))
	pieces := []string{"\x00", "\x01", "\x02", "\x03", "\x04", "\x05", b8(0), b8(1), b8(top), b8(top + 1), b8(1 << 63), "a", bytes, list}
	taken := 0
	var walk func(s string, left int)
	walk = func(s string, left int) {
		if likeModel(t, s) {
			taken++
		}
		if left == 0 {
			return
		}
		for _, p := range pieces {
			walk(s+p, left-1)
		}
	}
	walk("", 5)
	if taken < 100 {
		t.Errorf("only %d were taken", taken)
	}
}

// someValue is a value of any kind, of a few elements.
func someValue(r *rand.Rand) api.Value {
	text := func() string {
		b := make([]byte, r.Intn(4))
		r.Read(b)
		return string(b)
	}
	n := 1 + r.Intn(4)
	var l []string
	var fields []api.Field
	var ranked []api.Scored
	for i := range n {
		name := fmt.Sprintf("%d%s", i, text())
		l = append(l, name)
		fields = append(fields, api.Field{Name: name, Value: text()})
		ranked = append(ranked, api.Scored{Name: name, Score: i*i - 3})
	}
	return []api.Value{aText(text()), aList(l...), aHash(fields...), aSet(l...), aRank(ranked...)}[r.Intn(5)]
}

// someEffect is an effect that may be, about one of a few keys; a clear is seldom.
func someEffect(r *rand.Rand, keys []string) api.Effect {
	key := keys[r.Intn(len(keys))]
	due := []int{0, 1, r.Intn(9), r.Intn(top), top}[r.Intn(5)]
	switch n := r.Intn(20); {
	case n == 0:
		return aClear()
	case n < 6:
		return aDrop(key)
	case n < 11:
		return aDue(key, due)
	}
	return aPut(key, someValue(r), due)
}

func someEffects(r *rand.Rand, keys []string, most int) []api.Effect {
	var l []api.Effect
	for range r.Intn(most + 1) {
		l = append(l, someEffect(r, keys))
	}
	return l
}

func someKeys() []string {
	return []string{"", "\x00", "a", "a\x00", "ab", "b", "\x7f", "\x80", "\xff", "A"}
}

// P16.4: of many lists of effects what is written is read as it was, and nothing of them is left out.
func TestThereAndBack(t *testing.T) {
	there := func(l []api.Effect) {
		s, e := Encode(l)
		if e != api.OK {
			t.Fatalf("Encode(%s): %d", show(l), e)
		}
		if back, e := Decode(s); !same(back, l) || e != api.OK {
			t.Fatalf("Decode(Encode(%s)): %s, %d", show(l), show(back), e)
		}
	}
	there(nil)
	there(good())
	for _, x := range good() {
		there([]api.Effect{x})
	}
	for _, x := range short() {
		for _, y := range short() {
			for _, z := range short() {
				there([]api.Effect{x, y, z})
			}
		}
	}
	for seed := range int64(200) {
		there(someEffects(rand.New(rand.NewSource(seed)), someKeys(), 40))
	}
}

// P16.4: random bytes, and bytes of random effects spoilt at several places, are read as the model reads them.
func TestRandomBytes(t *testing.T) {
	for seed := range int64(3000) {
		r := rand.New(rand.NewSource(seed))
		s, _ := Encode(someEffects(r, someKeys(), 8))
		likeModel(t, s)
		b := []byte(s)
		for range r.Intn(4) {
			if len(b) > 0 {
				b[r.Intn(len(b))] = byte(r.Intn(6))
			}
		}
		likeModel(t, string(b))
		r.Read(b)
		likeModel(t, string(b))
		for i := range b {
			b[i] = byte(r.Intn(5))
		}
		likeModel(t, string(b))
	}
}
