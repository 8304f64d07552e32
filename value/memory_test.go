package value

import (
	"slices"
	"strings"
	"testing"
	"unsafe"

	"covenant/api"
)

// overwrite writes over a value's lists and over the spare room behind them.
func overwrite(v api.Value) {
	for l, i := v.List[:cap(v.List)], 0; i < len(l); i++ {
		l[i] = "spoilt"
	}
	for l, i := v.Fields[:cap(v.Fields)], 0; i < len(l); i++ {
		l[i] = api.Field{Name: "spoilt", Value: "spoilt"}
	}
	for l, i := v.Ranked[:cap(v.Ranked)], 0; i < len(l); i++ {
		l[i] = api.Scored{Name: "spoilt", Score: 77}
	}
}

// roomy is a value with spare room behind its lists, and that room with the lists ahead of it.
func roomy(v api.Value) (api.Value, api.Value) {
	room := v
	room.List = append(slices.Clone(v.List), "behind", "b", "a")
	room.Fields = append(slices.Clone(v.Fields), api.Field{Name: "behind"}, api.Field{Name: "a"})
	room.Ranked = append(slices.Clone(v.Ranked), api.Scored{Name: "behind", Score: 1}, api.Scored{Name: "a"})
	v.List = room.List[:len(v.List)]
	v.Fields = room.Fields[:len(v.Fields)]
	v.Ranked = room.Ranked[:len(v.Ranked)]
	return v, room
}

// several is values that may be, that may not, and one with all fields filled.
func several() []api.Value {
	all := api.Value{Kind: 2, Text: "t", List: []string{"b", "a"}, Fields: []api.Field{{Name: "b"}, {Name: "a"}}, Ranked: []api.Scored{{Name: "b", Score: 2}, {Name: "a", Score: 1}}}
	odd := Copy(all)
	odd.Kind = 9
	return append(good(), all, odd, aSet("b", "a"), hashOf("b", "1", "a", "2"), aRank(api.Scored{Name: "b", Score: 1}, api.Scored{Name: "a", Score: 1}), aList(), api.Value{})
}

// twin is a value of its own, element by element.
func twin(v api.Value) api.Value {
	v.List = append([]string{}, v.List...)
	v.Fields = append([]api.Field{}, v.Fields...)
	v.Ranked = append([]api.Scored{}, v.Ranked...)
	return v
}

// R4: what is handed in is not changed, what lies behind its end neither.
func TestHandedIn(t *testing.T) {
	for _, first := range several() {
		v, room := roomy(first)
		was := twin(room)
		Check(v)
		Empty(v)
		Same(v, v)
		Weight(v)
		Encode(v)
		overwrite(Copy(v))
		if !Same(room, was) || !Same(v, first) {
			t.Errorf("%v: changed to %v, and behind its end to %v", first, v, room)
		}
	}
}

// 13.2, R4: what is changed in a copy leaves the first as it was, and the other way.
func TestCopy(t *testing.T) {
	for _, first := range several() {
		v, room := roomy(first)
		was := twin(room)
		one, other := Copy(v), Copy(v)
		if !Same(one, first) || !Same(other, first) {
			t.Fatalf("%v: copied as %v and %v", first, one, other)
		}
		overwrite(one)
		if !Same(v, first) || !Same(other, first) || !Same(room, was) {
			t.Errorf("%v: behind a change of its copy %v, its other copy %v", first, v, other)
		}
		overwrite(v)
		if !Same(other, first) {
			t.Errorf("%v: its copy behind a change of it %v", first, other)
		}
	}
}

// R4: what is laid behind a copy's lists is not laid into the spare room of the first, where it has lists of no length too.
func TestCopyGrows(t *testing.T) {
	for _, first := range several() {
		v, room := roomy(first)
		was := twin(room)
		c := Copy(v)
		c.List = append(c.List, "more")
		c.Fields = append(c.Fields, api.Field{Name: "more"})
		c.Ranked = append(c.Ranked, api.Scored{Name: "more"})
		overwrite(c)
		if !Same(room, was) {
			t.Errorf("%v: behind its end %v", first, room)
		}
	}
}

// R4: what Decode tells is its caller's: another answer does not share it.
func TestDecodedApart(t *testing.T) {
	for _, v := range good() {
		s, _ := Encode(v)
		was := strings.Clone(s)
		one, _, _ := Decode(s)
		other, _, _ := Decode(s)
		overwrite(one)
		again, _, _ := Decode(s)
		if !Same(other, v) || !Same(again, v) || s != was {
			t.Errorf("%v: behind a change of what was told %v, %v", v, other, again)
		}
	}
}

// R4: the bytes that are handed in are not kept: no text of the answer lies within them.
func TestDecodedTexts(t *testing.T) {
	for _, v := range good() {
		bytes, _ := Encode(v)
		s := bytes + long(100)
		from := uintptr(unsafe.Pointer(unsafe.StringData(s)))
		got, _, _ := Decode(s)
		for _, text := range texts(got) {
			at := uintptr(unsafe.Pointer(unsafe.StringData(text)))
			if text != "" && at >= from && at < from+uintptr(len(s)) {
				t.Errorf("%q lies within the bytes of %v", text, v)
			}
		}
	}
}

// R4: what is changed behind an Encode does not change its bytes.
func TestEncodedApart(t *testing.T) {
	for _, v := range good() {
		v = twin(v)
		s, _ := Encode(v)
		want := modelBytes(v)
		overwrite(v)
		if s != want {
			t.Errorf("%q, not %q", s, want)
		}
	}
}
