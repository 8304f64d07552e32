package table

import (
	"strconv"
	"strings"
	"testing"

	"covenant/api"
)

// The rows as the chapter writes them, section by section: the name, the arity, w, c or -, the keys.
const (
	controlText = "discard 1 c -, exec 1 c -, multi 1 c -, quit 1 c -, reset 1 c -, unwatch 1 c -, watch -2 c 1,-1,1"
	stringText  = "append 3 w 1, bitcount -2 - 1, bitop -4 w 2,-1,1, bitpos -3 - 1, decr 2 w 1, decrby 3 w 1, get 2 - 1, getbit 3 - 1, getdel 2 w 1, getex -2 w 1, getrange 4 - 1, getset 3 w 1, incr 2 w 1, incrby 3 w 1, mget -2 - 1,-1,1, mset -3 w 1,-1,2, msetnx -3 w 1,-1,2, psetex 4 w 1, set -3 w 1, setbit 4 w 1, setex 4 w 1, setnx 3 w 1, setrange 4 w 1, strlen 2 - 1"
	keyText     = "copy -3 w 1,2,1, dbsize 1 - -, del -2 w 1,-1,1, dump 2 - 1, echo 2 - -, exists -2 - 1,-1,1, expire -3 w 1, expireat -3 w 1, expiretime 2 - 1, flushall 1 w -, flushdb 1 w -, keys 2 - -, persist 2 w 1, pexpire -3 w 1, pexpireat -3 w 1, pexpiretime 2 - 1, ping -1 - -, pttl 2 - 1, rename 3 w 1,2,1, renamenx 3 w 1,2,1, restore -4 w 1, scan -2 - -, ttl 2 - 1, type 2 - 1, unlink -2 w 1,-1,1"
	listText    = "lindex 3 - 1, linsert 5 w 1, llen 2 - 1, lmove 5 w 1,2,1, lpop -2 w 1, lpos -3 - 1, lpush -3 w 1, lpushx -3 w 1, lrange 4 - 1, lrem 4 w 1, lset 4 w 1, ltrim 4 w 1, rpop -2 w 1, rpoplpush 3 w 1,2,1, rpush -3 w 1, rpushx -3 w 1"
	hashText    = "hdel -3 w 1, hexists 3 - 1, hget 3 - 1, hgetall 2 - 1, hincrby 4 w 1, hkeys 2 - 1, hlen 2 - 1, hmget -3 - 1, hmset -4 w 1, hscan -3 - 1, hset -4 w 1, hsetnx 4 w 1, hstrlen 3 - 1, hvals 2 - 1"
	setText     = "sadd -3 w 1, scard 2 - 1, sdiff -2 - 1,-1,1, sdiffstore -3 w 1,-1,1, sinter -2 - 1,-1,1, sinterstore -3 w 1,-1,1, sismember 3 - 1, smembers 2 - 1, smismember -3 - 1, smove 4 w 1,2,1, spop -2 w 1, srem -3 w 1, sscan -3 - 1, sunion -2 - 1,-1,1, sunionstore -3 w 1,-1,1"
	scoreText   = "zadd -4 w 1, zcard 2 - 1, zcount 4 - 1, zincrby 4 w 1, zlexcount 4 - 1, zmscore -3 - 1, zpopmax -2 w 1, zpopmin -2 w 1, zrange -4 - 1, zrank 3 - 1, zrem -3 w 1, zremrangebylex 4 w 1, zremrangebyrank 4 w 1, zremrangebyscore 4 w 1, zrevrank 3 - 1, zscan -3 - 1, zscore 3 - 1"
)

// lines is every row of the chapter, as its text.
func lines() []string {
	sections := []string{controlText, stringText, keyText, listText, hashText, setText, scoreText}
	return strings.Split(strings.Join(sections, ", "), ", ")
}

// number reads a number of the chapter.
func number(t *testing.T, s string) int {
	t.Helper()
	n, err := strconv.Atoi(s)
	if err != nil {
		t.Fatal(err)
	}
	return n
}

// chapter is every row of the chapter, in its order there.
func chapter(t *testing.T) []api.Spec {
	t.Helper()
	var rows []api.Spec
	for _, line := range lines() {
		cells := strings.Fields(line)
		if len(cells) != 4 {
			t.Fatalf("%q has %d cells", line, len(cells))
		}
		row := api.Spec{Name: cells[0], Arity: number(t, cells[1]), Write: cells[2] == "w", Control: cells[2] == "c"}
		keys := strings.Split(cells[3], ",")
		switch {
		case cells[3] == "-":
		case len(keys) == 1:
			row.First, row.Last, row.Step = number(t, keys[0]), number(t, keys[0]), 1
		default:
			row.First, row.Last, row.Step = number(t, keys[0]), number(t, keys[1]), number(t, keys[2])
		}
		rows = append(rows, row)
	}
	return rows
}

// great gives a name in great letters.
func great(name string) string {
	return strings.ToUpper(name)
}

// mixed gives a name of which every second letter is great.
func mixed(name string, first int) string {
	b := []byte(name)
	for i := first; i < len(b); i += 2 {
		b[i] -= 'a' - 'A'
	}
	return string(b)
}

// spellings is a name in small, great and mixed letters.
func spellings(name string) []string {
	return []string{name, great(name), mixed(name, 0), mixed(name, 1), great(name[:1]) + name[1:]}
}

// request is a request of so many words, each other than the rest.
func request(name string, words int) []string {
	args := []string{name}
	for i := 1; i < words; i++ {
		args = append(args, "w"+strconv.Itoa(i))
	}
	return args[:words]
}

// least is how few words a row takes.
func least(row api.Spec) int {
	return max(row.Arity, -row.Arity)
}
