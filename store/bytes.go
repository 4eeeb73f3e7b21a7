package store

import (
	"maps"
	"math"
	"slices"
	"strings"

	"hawthorn/api"
	"hawthorn/blake"
	"hawthorn/op"
	"hawthorn/policy"
	"hawthorn/table"
	"hawthorn/wire"
)

// Export is all of it as bytes.
func (s *Store) Export() string {
	if !s.made() {
		return ""
	}
	return s.exportNumbers() + s.table.Export() + s.policy.Export() + s.exportSessions()
}

// Digest is the sum of all of it.
func (s *Store) Digest() string {
	if !s.made() {
		return ""
	}
	return blake.Sum(s.Export())
}

// exportNumbers is all single numbers as bytes.
func (s *Store) exportNumbers() string {
	return wire.Num(uint64(s.config.Policy)) +
		wire.Num(uint64(s.config.Entries)) +
		wire.Num(uint64(s.config.Bytes)) +
		wire.Num(s.config.Seed) +
		wire.Num(s.seq) +
		wire.Num(s.now) +
		wire.Num(s.version) +
		wire.Num(uint64(s.tally.Asked)) +
		wire.Num(uint64(s.tally.Hits))
}

// exportSessions is what sessions were told as bytes.
func (s *Store) exportSessions() string {
	var b strings.Builder
	b.WriteString(wire.Num(uint64(len(s.sessions))))
	for _, session := range slices.Sorted(maps.Keys(s.sessions)) {
		last := s.sessions[session]
		b.WriteString(wire.Num(session))
		b.WriteString(wire.Num(last.num))
		b.WriteString(op.PutReply(last.reply))
	}
	return b.String()
}

// Import is the cache of bytes.
func Import(bytes string) (*Store, api.Errno) {
	var s *Store
	e := wire.Read(bytes, func(r *wire.Reader) { s = take(r) })
	if e != api.OK {
		return nil, e
	}
	return s, api.OK
}

// take takes a cache off bytes.
func take(r *wire.Reader) *Store {
	s := &Store{config: takeConfig(r)}
	s.seq = r.Num(math.MaxUint64)
	s.now = r.Num(math.MaxUint64)
	s.version = r.Num(math.MaxUint64)
	s.tally = takeTally(r)
	s.table = table.Take(r)
	s.policy = policy.Take(r)
	r.Must(s.agrees())
	s.sessions = takeSessions(r)
	return s
}

// takeConfig takes off bytes what a cache is.
func takeConfig(r *wire.Reader) api.Config {
	var c api.Config
	c.Policy = int(r.Num(api.PolicyTiny))
	c.Entries = int(r.Num(api.MostEntries))
	c.Bytes = int(r.Num(api.MostBytes))
	c.Seed = r.Num(math.MaxUint64)
	r.Must(Check(c))
	return c
}

// takeTally takes off bytes how often something was asked for, and was there.
func takeTally(r *wire.Reader) api.Tally {
	var t api.Tally
	t.Asked = int64(r.Num(math.MaxInt64))
	t.Hits = int64(r.Num(math.MaxInt64))
	r.Must(t.Hits <= t.Asked)
	return t
}

// takeSessions takes off bytes what sessions were told.
func takeSessions(r *wire.Reader) map[uint64]told {
	sessions := map[uint64]told{}
	before := uint64(0)
	for i := range r.Num(api.MostSessions) {
		session := r.Num(math.MaxUint64)
		r.Must(i == 0 || session > before)
		num := r.Num(math.MaxUint64)
		sessions[session] = told{num: num, reply: op.TakeReply(r)}
		before = session
	}
	return sessions
}

// agrees is whether table and policy are those of one cache, and of this one.
func (s *Store) agrees() bool {
	if s.policy.Kind() != s.config.Policy || s.policy.Len() != s.table.Len() {
		return false
	}
	if s.table.Len() > s.config.Entries || s.table.Bytes() > s.config.Bytes {
		return false
	}
	return !slices.ContainsFunc(s.Entries(), func(x api.Entry) bool { return !s.mayKeep(x) })
}

// mayKeep is whether it may have an entry of its table: as many keys as there are entries are kept, so none is kept besides.
func (s *Store) mayKeep(x api.Entry) bool {
	return s.policy.Has(x.Key) && x.Key != "" &&
		x.Version >= 1 && x.Version <= s.version &&
		(x.End == 0 || x.End > s.now)
}
