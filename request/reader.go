package request

import (
	"bytes"
	"slices"
	"strconv"
	"strings"

	"covenant/api"
)

// stop is what reading gives up with, by a panic: the word of the fault, or wantMore.
type stop string

const (
	wantMore    stop = ""
	faultLine   stop = "line"
	faultCount  stop = "count"
	faultBulk   stop = "bulk"
	faultLength stop = "length"
	faultEnd    stop = "end"
	faultQuotes stop = "quotes"
	faultWords  stop = "words"
)

// Reader gives requests out of bytes as they come. Of an array that has not ended it keeps the words that are read, so that their bytes are not gone over again whenever more come.
type Reader struct {
	limits api.Limits
	left   []byte   // what was fed and is not read
	looked int      // how many bytes at the front of left are known to be no line's end
	words  []string // those that are read of the begun thing
	wanted int      // how many bulks of the begun thing are to come
	read   int      // how many bytes of the begun thing are read
	used   int
	fault  stop // the one that was told
}

// Whole gives the requests of a stream that is there as a whole, the fault's word, and how many bytes were used.
func Whole(l api.Limits, s string) ([][]string, string, int) {
	r, e := New(l)
	if e != api.OK {
		return nil, "", 0
	}
	r.Feed(s)
	var requests [][]string
	for {
		words, what := r.Next()
		if what != api.RequestOne {
			return requests, r.Fault(), r.Used()
		}
		requests = append(requests, words)
	}
}

// New gives a reader to which nothing was fed.
func New(l api.Limits) (*Reader, api.Errno) {
	if e := Check(l); e != api.OK {
		return nil, e
	}
	return &Reader{limits: l}, api.OK
}

// Feed lays s behind what was fed ahead.
func (r *Reader) Feed(s string) {
	if r == nil || r.fault != "" {
		return
	}
	r.left = append(r.left, s...)
}

// Next gives the next request that is there whole, or tells the fault, or that more bytes are wanted.
func (r *Reader) Next() (words []string, what int) {
	if r == nil {
		return nil, api.RequestMore
	}
	if r.fault != "" {
		return nil, api.RequestFault
	}
	defer func() {
		if reason := recover(); reason != nil {
			words, what = nil, r.giveUp(reason)
		}
	}()
	return r.request(), api.RequestOne
}

// Fault gives the word of the fault that was told.
func (r *Reader) Fault() string {
	if r == nil {
		return ""
	}
	return string(r.fault)
}

// Held gives how many bytes were fed and not used.
func (r *Reader) Held() int {
	if r == nil {
		return 0
	}
	return r.read + len(r.left)
}

// Used gives how many bytes were used.
func (r *Reader) Used() int {
	if r == nil {
		return 0
	}
	return r.used
}

// giveUp tells what the reason of a panic comes to. One that is not the layer's own would be a mistake in the program, and panics on.
func (r *Reader) giveUp(reason any) int {
	why := reason.(stop)
	if why == wantMore {
		return api.RequestMore
	}
	*r = Reader{used: r.used, fault: why}
	return api.RequestFault
}

// request reads things to the end of the first one that has words.
func (r *Reader) request() []string {
	for {
		r.thing()
		if words := r.words; len(words) > 0 {
			r.words = nil
			return words
		}
	}
}

// thing reads the begun thing, or else the next one, to its end.
func (r *Reader) thing() {
	if r.wanted == 0 {
		r.firstLine()
	}
	for r.wanted > 0 {
		r.bulk()
	}
	r.used += r.read
	r.read = 0
}

// firstLine reads the line that a thing begins with: of an array its count, and of a typed line all of it.
func (r *Reader) firstLine() {
	text, size := r.line()
	if digits, array := strings.CutPrefix(text, markArray); array {
		r.wanted = count(digits, r.limits.Args, faultCount)
	} else {
		r.words = r.typed(text)
	}
	r.take(size)
}

// typed gives the words of a typed line.
func (r *Reader) typed(text string) []string {
	words, ok := Split(text)
	if !ok {
		panic(faultQuotes)
	}
	tooLong := func(word string) bool { return len(word) > r.limits.Bulk }
	if len(words) > r.limits.Args || slices.ContainsFunc(words, tooLong) {
		panic(faultWords)
	}
	return words
}

// bulk reads the next bulk of an array. It takes no byte of one that is not there whole, so that no place within a bulk has to be kept.
func (r *Reader) bulk() {
	// The first byte tells this fault, whether its line has ended or not.
	if len(r.left) > 0 && string(r.left[:1]) != markBulk {
		panic(faultBulk)
	}
	text, size := r.line()
	length := count(text[1:], r.limits.Bulk, faultLength)
	body := r.left[size:]
	end := body[min(length, len(body)):]
	n := min(len(end), len(lineEnd))
	if string(end[:n]) != lineEnd[:n] {
		panic(faultEnd)
	}
	if n < len(lineEnd) {
		panic(wantMore)
	}
	r.words = append(r.words, string(body[:length]))
	r.wanted--
	r.take(size + length + len(lineEnd))
}

// line gives the text of the line that is next, and how many bytes it takes, its end with them.
func (r *Reader) line() (string, int) {
	length := len(r.left)
	at := bytes.IndexByte(r.left[r.looked:], '\n')
	if at >= 0 {
		length = r.looked + at
	}
	if length > r.limits.Line {
		panic(faultLine)
	}
	if at < 0 {
		r.looked = length
		panic(wantMore)
	}
	return strings.TrimSuffix(string(r.left[:length]), "\r"), length + 1
}

// count gives the number that digits tell; wrong is the fault, if they are no count, or one above most.
func count(digits string, most int, wrong stop) int {
	n, err := strconv.Atoi(digits)
	// Atoi takes signs and noughts ahead; a count's one text does not have them.
	if err != nil || n < 0 || n > most || strconv.Itoa(n) != digits {
		panic(wrong)
	}
	return n
}

// take passes on behind n bytes that are read.
func (r *Reader) take(n int) {
	r.left = r.left[n:]
	if len(r.left) == 0 {
		// The bytes ahead are wanted no more, and their memory is not to be kept for them.
		r.left = nil
	}
	r.looked = 0
	r.read += n
}
