package setcmd

import (
	"strings"
	"testing"

	"covenant/api"
	"covenant/resp"
)

// 21.2: SCARD tells how many elements there are.
func TestSize(t *testing.T) {
	check(t, 10, []row{
		{"scard s", "(integer) 3", ""}, {"scard one", "(integer) 1", ""}, {"scard late", "(integer) 2", ""}, {"SCARD soon", "(integer) 1", ""},
		{"scard q", "(integer) 0", ""}, {"scard over", "(integer) 0", ""}, {"scard past", "(integer) 0", ""}, {"scard lost", "(integer) 0", ""}, {"scard zed", "(integer) 0", ""}, {"scard ''", "(integer) 0", ""},
	})
	refusedKeys(t, "scard K")
}

// 21.2: SISMEMBER tells whether an element is there.
func TestIsElement(t *testing.T) {
	check(t, 10, []row{
		{"sismember s a", "(integer) 1", ""}, {"sismember s b", "(integer) 1", ""}, {"sismember s c", "(integer) 1", ""}, {"sismember late p", "(integer) 1", ""}, {"sismember soon r", "(integer) 1", ""},
		{"sismember s q", "(integer) 0", ""}, {"sismember s ''", "(integer) 0", ""}, {"sismember s A", "(integer) 0", ""}, {"sismember s ab", "(integer) 0", ""}, {"sismember s a\x00", "(integer) 0", ""}, {"sismember late a", "(integer) 0", ""},
		{"sismember q a", "(integer) 0", ""}, {"sismember over a", "(integer) 0", ""}, {"sismember past a", "(integer) 0", ""}, {"sismember lost a", "(integer) 0", ""}, {"sismember '' ''", "(integer) 0", ""},
	})
	check(t, 9, []row{{"sismember over a", "(integer) 1", ""}})
	refusedKeys(t, "sismember K a")
}

// 21.2: SMISMEMBER tells that of each word, in their order.
func TestIsElementEach(t *testing.T) {
	check(t, 10, []row{
		{"smismember s a", "[(integer) 1]", ""}, {"smismember s q", "[(integer) 0]", ""}, {"smismember s c q a", "[(integer) 1, (integer) 0, (integer) 1]", ""}, {"smismember s a a q q", "[(integer) 1, (integer) 1, (integer) 0, (integer) 0]", ""}, {"smismember late '' p B b", "[(integer) 0, (integer) 1, (integer) 0, (integer) 1]", ""},
		{"smismember q a b", "[(integer) 0, (integer) 0]", ""}, {"smismember over a b q", "[(integer) 0, (integer) 0, (integer) 0]", ""}, {"smismember past a", "[(integer) 0]", ""}, {"smismember lost a", "[(integer) 0]", ""},
	})
	refusedKeys(t, "smismember K a")
	refusedKeys(t, "smismember K a q")
}

// 21.2: SMEMBERS tells all elements, rising.
func TestElements(t *testing.T) {
	check(t, 10, []row{
		{"smembers s", `["a", "b", "c"]`, ""}, {"smembers late", `["b", "p"]`, ""}, {"SMembers one", `["x"]`, ""},
		{"smembers q", "[]", ""}, {"smembers over", "[]", ""}, {"smembers past", "[]", ""}, {"smembers lost", "[]", ""}, {"smembers zed", "[]", ""}, {"smembers ''", "[]", ""},
	})
	check(t, 9, []row{{"smembers over", `["a", "b"]`, ""}})
	check(t, 11, []row{{"smembers soon", "[]", ""}})
	refusedKeys(t, "smembers K")
}

// 21.2: rising is byte by byte, whatever the elements and in whatever order they came; each is found.
func TestRising(t *testing.T) {
	elements := []string{"", "\x00", "\x00\x00", "0", "10", "2", "A", "B", "a", "a\x00", "aa", "b", "z", "\x7f", "\x80", "\xff", "\xff\x00"}
	for from := range elements {
		s := begin()
		for i := range elements {
			// Seven and the number of elements have nothing in common, so each of them comes once.
			mustRun(t, s, 10, "sadd", "q", elements[(from+i*7)%len(elements)])
		}
		if got := bulksOf(t, mustRun(t, s, 10, "smembers", "q")); strings.Join(got, "|") != strings.Join(elements, "|") {
			t.Errorf("smembers: %q, not %q", got, elements)
		}
		for _, r := range mustRun(t, s, 10, append([]string{"smismember", "q"}, elements...)...).List {
			if resp.Show(r) != "(integer) 1" {
				t.Errorf("smismember: %s", resp.Show(r))
			}
		}
		for _, x := range []string{" ", "00", "1", "AB", "a\x01", "ab", "zz", "\xfe", "\xff\xff"} {
			if r := mustRun(t, s, 10, "sismember", "q", x); resp.Show(r) != "(integer) 0" {
				t.Errorf("sismember of %q: %s", x, resp.Show(r))
			}
		}
	}
}

// bulksOf is the texts of an array of bulks.
func bulksOf(t *testing.T, r api.Reply) []string {
	t.Helper()
	if r.Kind != api.ReplyArray {
		t.Fatalf("%s is no array", resp.Show(r))
	}
	var l []string
	for _, x := range r.List {
		if x.Kind != api.ReplyBulk {
			t.Fatalf("%s is no bulk", resp.Show(x))
		}
		l = append(l, x.Text)
	}
	return l
}
