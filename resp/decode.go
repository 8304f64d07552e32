package resp

import (
	"math"
	"strings"

	"covenant/api"
	"covenant/num"
)

// maxLength is the greatest length of a bulk and of an array.
const maxLength = 2147483647

// part reads one piece of a reply. It is called again with the bytes that come, and keeps for itself what it has read; it tells how many of the bytes it took, and OK at its end, ErrMore if it took them all and wants more, ErrReply as soon as no reply goes on so.
type part func(s string) (int, api.Errno)

// Decode gives the reply whose bytes s begins with, and how many they are.
func Decode(s string) (api.Reply, int, api.Errno) {
	var r api.Reply
	n, e := reply(&r, 1)(s)
	if e != api.OK {
		return api.Reply{}, 0, e
	}
	return r, n, api.OK
}

// Decoder gives replies out of bytes as they come. Of a reply that has not ended it keeps what is read, not the bytes, so that none is gone over twice.
type Decoder struct {
	read   part       // reads the reply on; nil at its beginning
	begun  *api.Reply // the reply, as far as it is read
	held   int        // the bytes of it that came
	failed bool
}

// New gives a decoder that holds nothing.
func New() *Decoder {
	return &Decoder{}
}

// Feed gives the replies that end in s.
func (d *Decoder) Feed(s string) ([]api.Reply, api.Errno) {
	if d == nil || d.failed {
		return nil, api.ErrReply
	}
	var told []api.Reply
	for s != "" {
		if d.read == nil {
			d.begun = &api.Reply{}
			d.read = reply(d.begun, 1)
		}
		n, e := d.read(s)
		s = s[n:]
		d.held += n
		switch e {
		case api.OK:
			told = append(told, *d.begun)
			*d = Decoder{}
		case api.ErrReply:
			*d = Decoder{failed: true}
			return told, api.ErrReply
		}
	}
	return told, api.OK
}

// Held gives how many bytes of a reply that has not ended came.
func (d *Decoder) Held() int {
	if d == nil {
		return 0
	}
	return d.held
}

// reply reads one reply into r; an array there would be the depth-th one within another.
func reply(r *api.Reply, depth int) part {
	var body part
	return func(s string) (int, api.Errno) {
		if body != nil {
			return body(s)
		}
		if s == "" {
			return 0, api.ErrMore
		}
		body = bodyBehind(s[0], r, depth)
		if body == nil {
			return 0, api.ErrReply
		}
		n, e := body(s[1:])
		return 1 + n, e
	}
}

// bodyBehind gives what reads on behind a reply's first byte; nil, if no reply begins so there.
func bodyBehind(mark byte, r *api.Reply, depth int) part {
	switch {
	case mark == markSimple:
		r.Kind = api.ReplySimple
		return then(lineText(&r.Text), endOfLine)
	case mark == markError:
		r.Kind = api.ReplyError
		return then(lineText(&r.Text), endOfLine)
	case mark == markInt:
		r.Kind = api.ReplyInt
		return then(number(&r.N, math.MinInt, math.MaxInt), endOfLine)
	case mark == markBulk:
		return bulk(r)
	case mark == markArray && depth <= api.MaxDepth:
		return array(r, depth)
	}
	return nil
}

func bulk(r *api.Reply) part {
	length := 0
	return then(lengthLine(&length), func() part {
		if length == noLength {
			r.Kind = api.ReplyNull
			return nothing
		}
		r.Kind = api.ReplyBulk
		return then(textOfLength(&r.Text, length), endOfLine)
	})
}

func array(r *api.Reply, depth int) part {
	length := 0
	return then(lengthLine(&length), func() part {
		if length == noLength {
			r.Kind = api.ReplyNone
			return nothing
		}
		r.Kind = api.ReplyArray
		return elements(&r.List, length, depth+1)
	})
}

// elements reads so many replies into list. No room is made ahead for them, since few bytes may tell of many.
func elements(list *[]api.Reply, length, depth int) part {
	var element api.Reply
	read := reply(&element, depth)
	return func(s string) (int, api.Errno) {
		taken := 0
		for len(*list) < length {
			n, e := read(s[taken:])
			taken += n
			if e != api.OK {
				return taken, e
			}
			*list = append(*list, element)
			element = api.Reply{}
			read = reply(&element, depth)
		}
		return taken, api.OK
	}
}

// then reads first, and behind it what next gives. That is asked for when first has ended, since it may hang on what was read.
func then(first part, next func() part) part {
	var second part
	return func(s string) (int, api.Errno) {
		taken := 0
		if second == nil {
			n, e := first(s)
			if e != api.OK {
				return n, e
			}
			taken, second = n, next()
		}
		n, e := second(s[taken:])
		return taken + n, e
	}
}

// nothing reads no byte, where nothing is left to read.
func nothing(string) (int, api.Errno) {
	return 0, api.OK
}

// endOfLine reads a line's end.
func endOfLine() part {
	left := lineEnd
	return func(s string) (int, api.Errno) {
		n := min(len(s), len(left))
		if s[:n] != left[:n] {
			return 0, api.ErrReply
		}
		left = left[n:]
		if left != "" {
			return n, api.ErrMore
		}
		return n, api.OK
	}
}

// lineText reads the bytes ahead of a 13 or a 10; whether it is a line's end that stands there, the part behind it tells.
func lineText(text *string) part {
	var read strings.Builder
	return func(s string) (int, api.Errno) {
		n := strings.IndexAny(s, lineEnd)
		if n < 0 {
			read.WriteString(s)
			return len(s), api.ErrMore
		}
		read.WriteString(s[:n])
		*text = read.String()
		return n, api.OK
	}
}

// textOfLength reads just so many bytes, whatever they are.
func textOfLength(text *string, length int) part {
	var read strings.Builder
	return func(s string) (int, api.Errno) {
		n := min(len(s), length-read.Len())
		read.WriteString(s[:n])
		if read.Len() < length {
			return n, api.ErrMore
		}
		*text = read.String()
		return n, api.OK
	}
}

// lengthLine reads the length of a bulk or of an array, or noLength, and the line's end.
func lengthLine(length *int) part {
	return then(number(length, noLength, maxLength), endOfLine)
}

// number reads the text of a number from least (which is below 0) to greatest, up to the 13 behind it.
func number(n *int, least, greatest int) part {
	var text []byte
	whole := false
	return func(s string) (int, api.Errno) {
		for i := range len(s) {
			if whole && s[i] == '\r' {
				return i, api.OK
			}
			text = append(text, s[i])
			value, e := num.Parse(string(text))
			whole = e == api.OK && least <= value && value <= greatest
			// Whatever a number's text begins with is the text of a number no farther from 0, but for the minus alone: so each byte is told where it comes.
			if !whole && string(text) != "-" {
				return 0, api.ErrReply
			}
			*n = value
		}
		return len(s), api.ErrMore
	}
}
