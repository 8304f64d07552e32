package table

import "covenant/api"

// The parts of commands: one may change keys, one works on the session itself, or neither.
const (
	reads = iota
	writes
	controls
)

// row is a line of the chapter's table: part is one of the three above; first, last and step are all 0, if no word is a key.
type row struct {
	name              string
	arity, part       int
	first, last, step int
}

// spec gives the row as it is told outside.
func (r row) spec() api.Spec {
	return api.Spec{
		Name:    r.name,
		Arity:   r.arity,
		Write:   r.part == writes,
		Control: r.part == controls,
		First:   r.first,
		Last:    r.last,
		Step:    r.step,
	}
}

// rows goes over all rows, in the order of the chapter's sections.
func rows(yield func(row) bool) {
	_ = controlRows(yield) && stringRows(yield) && keyRows(yield) && listRows(yield) && hashRows(yield) && setRows(yield) && scoreRows(yield)
}

// through goes over the rows of one section, and says whether more are wanted. A section hands its rows in, and none out: so no memory is asked for where one row is looked for.
func through(section []row, yield func(row) bool) bool {
	for _, r := range section {
		if !yield(r) {
			return false
		}
	}
	return true
}

func controlRows(yield func(row) bool) bool {
	return through([]row{
		{"discard", 1, controls, 0, 0, 0},
		{"exec", 1, controls, 0, 0, 0},
		{"multi", 1, controls, 0, 0, 0},
		{"quit", 1, controls, 0, 0, 0},
		{"reset", 1, controls, 0, 0, 0},
		{"unwatch", 1, controls, 0, 0, 0},
		{"watch", -2, controls, 1, -1, 1},
	}, yield)
}

func stringRows(yield func(row) bool) bool {
	return through([]row{
		{"append", 3, writes, 1, 1, 1},
		{"bitcount", -2, reads, 1, 1, 1},
		{"bitop", -4, writes, 2, -1, 1},
		{"bitpos", -3, reads, 1, 1, 1},
		{"decr", 2, writes, 1, 1, 1},
		{"decrby", 3, writes, 1, 1, 1},
		{"get", 2, reads, 1, 1, 1},
		{"getbit", 3, reads, 1, 1, 1},
		{"getdel", 2, writes, 1, 1, 1},
		{"getex", -2, writes, 1, 1, 1},
		{"getrange", 4, reads, 1, 1, 1},
		{"getset", 3, writes, 1, 1, 1},
		{"incr", 2, writes, 1, 1, 1},
		{"incrby", 3, writes, 1, 1, 1},
		{"mget", -2, reads, 1, -1, 1},
		{"mset", -3, writes, 1, -1, 2},
		{"msetnx", -3, writes, 1, -1, 2},
		{"psetex", 4, writes, 1, 1, 1},
		{"set", -3, writes, 1, 1, 1},
		{"setbit", 4, writes, 1, 1, 1},
		{"setex", 4, writes, 1, 1, 1},
		{"setnx", 3, writes, 1, 1, 1},
		{"setrange", 4, writes, 1, 1, 1},
		{"strlen", 2, reads, 1, 1, 1},
	}, yield)
}

func keyRows(yield func(row) bool) bool {
	return through([]row{
		{"copy", -3, writes, 1, 2, 1},
		{"dbsize", 1, reads, 0, 0, 0},
		{"del", -2, writes, 1, -1, 1},
		{"dump", 2, reads, 1, 1, 1},
		{"echo", 2, reads, 0, 0, 0},
		{"exists", -2, reads, 1, -1, 1},
		{"expire", -3, writes, 1, 1, 1},
		{"expireat", -3, writes, 1, 1, 1},
		{"expiretime", 2, reads, 1, 1, 1},
		{"flushall", 1, writes, 0, 0, 0},
		{"flushdb", 1, writes, 0, 0, 0},
		{"keys", 2, reads, 0, 0, 0},
		{"persist", 2, writes, 1, 1, 1},
		{"pexpire", -3, writes, 1, 1, 1},
		{"pexpireat", -3, writes, 1, 1, 1},
		{"pexpiretime", 2, reads, 1, 1, 1},
		{"ping", -1, reads, 0, 0, 0},
		{"pttl", 2, reads, 1, 1, 1},
		{"rename", 3, writes, 1, 2, 1},
		{"renamenx", 3, writes, 1, 2, 1},
		{"restore", -4, writes, 1, 1, 1},
		{"scan", -2, reads, 0, 0, 0},
		{"ttl", 2, reads, 1, 1, 1},
		{"type", 2, reads, 1, 1, 1},
		{"unlink", -2, writes, 1, -1, 1},
	}, yield)
}

func listRows(yield func(row) bool) bool {
	return through([]row{
		{"lindex", 3, reads, 1, 1, 1},
		{"linsert", 5, writes, 1, 1, 1},
		{"llen", 2, reads, 1, 1, 1},
		{"lmove", 5, writes, 1, 2, 1},
		{"lpop", -2, writes, 1, 1, 1},
		{"lpos", -3, reads, 1, 1, 1},
		{"lpush", -3, writes, 1, 1, 1},
		{"lpushx", -3, writes, 1, 1, 1},
		{"lrange", 4, reads, 1, 1, 1},
		{"lrem", 4, writes, 1, 1, 1},
		{"lset", 4, writes, 1, 1, 1},
		{"ltrim", 4, writes, 1, 1, 1},
		{"rpop", -2, writes, 1, 1, 1},
		{"rpoplpush", 3, writes, 1, 2, 1},
		{"rpush", -3, writes, 1, 1, 1},
		{"rpushx", -3, writes, 1, 1, 1},
	}, yield)
}

func hashRows(yield func(row) bool) bool {
	return through([]row{
		{"hdel", -3, writes, 1, 1, 1},
		{"hexists", 3, reads, 1, 1, 1},
		{"hget", 3, reads, 1, 1, 1},
		{"hgetall", 2, reads, 1, 1, 1},
		{"hincrby", 4, writes, 1, 1, 1},
		{"hkeys", 2, reads, 1, 1, 1},
		{"hlen", 2, reads, 1, 1, 1},
		{"hmget", -3, reads, 1, 1, 1},
		{"hmset", -4, writes, 1, 1, 1},
		{"hscan", -3, reads, 1, 1, 1},
		{"hset", -4, writes, 1, 1, 1},
		{"hsetnx", 4, writes, 1, 1, 1},
		{"hstrlen", 3, reads, 1, 1, 1},
		{"hvals", 2, reads, 1, 1, 1},
	}, yield)
}

func setRows(yield func(row) bool) bool {
	return through([]row{
		{"sadd", -3, writes, 1, 1, 1},
		{"scard", 2, reads, 1, 1, 1},
		{"sdiff", -2, reads, 1, -1, 1},
		{"sdiffstore", -3, writes, 1, -1, 1},
		{"sinter", -2, reads, 1, -1, 1},
		{"sinterstore", -3, writes, 1, -1, 1},
		{"sismember", 3, reads, 1, 1, 1},
		{"smembers", 2, reads, 1, 1, 1},
		{"smismember", -3, reads, 1, 1, 1},
		{"smove", 4, writes, 1, 2, 1},
		{"spop", -2, writes, 1, 1, 1},
		{"srem", -3, writes, 1, 1, 1},
		{"sscan", -3, reads, 1, 1, 1},
		{"sunion", -2, reads, 1, -1, 1},
		{"sunionstore", -3, writes, 1, -1, 1},
	}, yield)
}

func scoreRows(yield func(row) bool) bool {
	return through([]row{
		{"zadd", -4, writes, 1, 1, 1},
		{"zcard", 2, reads, 1, 1, 1},
		{"zcount", 4, reads, 1, 1, 1},
		{"zincrby", 4, writes, 1, 1, 1},
		{"zlexcount", 4, reads, 1, 1, 1},
		{"zmscore", -3, reads, 1, 1, 1},
		{"zpopmax", -2, writes, 1, 1, 1},
		{"zpopmin", -2, writes, 1, 1, 1},
		{"zrange", -4, reads, 1, 1, 1},
		{"zrank", 3, reads, 1, 1, 1},
		{"zrem", -3, writes, 1, 1, 1},
		{"zremrangebylex", 4, writes, 1, 1, 1},
		{"zremrangebyrank", 4, writes, 1, 1, 1},
		{"zremrangebyscore", 4, writes, 1, 1, 1},
		{"zrevrank", 3, reads, 1, 1, 1},
		{"zscan", -3, reads, 1, 1, 1},
		{"zscore", 3, reads, 1, 1, 1},
	}, yield)
}
