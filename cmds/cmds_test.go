package cmds_test

import (
	"encoding/binary"
	"math"
	"reflect"
	"slices"
	"strconv"
	"strings"
	"testing"

	"tithebarn/api"
	"tithebarn/cmds"
)

const limit = 1 << 40

// field is one number of a command: its name, where it is, and the least it may be.
type field struct {
	name  string
	at    *int
	least int
}

// vecFields are the numbers of v.
func vecFields(name string, v *api.Vec) []field {
	var l []field
	for r := range v {
		l = append(l, field{name + "." + strconv.Itoa(r), &v[r], 0})
	}
	return l
}

// nodeFields are the numbers of n, as they are written.
func nodeFields(name string, n *api.Node) []field {
	l := []field{{name + ".Parent", &n.Parent, -1}, {name + ".Weight", &n.Weight, 0}}
	return slices.Concat(l, vecFields(name+".Nominal", &n.Nominal), vecFields(name+".Borrow", &n.Borrow), vecFields(name+".Lend", &n.Lend))
}

// hostFields are the numbers of h, as they are written.
func hostFields(name string, h *api.Host) []field {
	l := []field{{name + ".Flavor", &h.Flavor, 0}, {name + ".Block", &h.Block, 0}, {name + ".Rack", &h.Rack, 0}}
	return append(l, vecFields(name+".Cap", &h.Cap)...)
}

// gangFields are the numbers of g, as they are written.
func gangFields(g *api.Gang) []field {
	l := []field{{"Id", &g.Id, 0}, {"Tenant", &g.Tenant, 0}, {"Pods", &g.Pods, 0}}
	l = append(l, vecFields("Need", &g.Need)...)
	return append(l, field{"Run", &g.Run, 0}, field{"Level", &g.Level, 0}, field{"Prefer", &g.Prefer, 0})
}

// configFields are the numbers of c, but how many nodes and hosts there are.
func configFields(c *api.Config) []field {
	var l []field
	for i := range c.Nodes {
		l = append(l, nodeFields("node "+strconv.Itoa(i), &c.Nodes[i])...)
	}
	for i := range c.Hosts {
		l = append(l, hostFields("host "+strconv.Itoa(i), &c.Hosts[i])...)
	}
	return append(l, field{"Half", &c.Half, 0}, field{"Age", &c.Age, 0})
}

// fields are the numbers of c that are its Kind's.
func fields(c *api.Command) []field {
	switch c.Kind {
	case api.CmdConfig:
		return configFields(&c.Config)
	case api.CmdSubmit:
		return gangFields(&c.Gang)
	case api.CmdFinish, api.CmdCancel, api.CmdTick:
		return []field{{"N", &c.N, 0}}
	}
	return nil
}

// encode is c as bytes by the library's own numbers, an independent way: one row of numbers, each written alike.
func encode(c api.Command) string {
	row := []int{c.Kind}
	c = clone(c)
	for i := range c.Config.Nodes {
		c.Config.Nodes[i].Parent++
	}
	for _, f := range fields(&c) {
		row = append(row, *f.at)
	}
	if c.Kind == api.CmdConfig {
		nodes, hosts := len(c.Config.Nodes), len(c.Config.Hosts)
		row = slices.Insert(row, 1+11*nodes, hosts)
		row = slices.Insert(row, 1, nodes)
	}
	return write(row)
}

// write is a row of numbers as bytes.
func write(row []int) string {
	var out []byte
	for _, n := range row {
		out = binary.AppendUvarint(out, uint64(n))
	}
	return string(out)
}

// read is the row of numbers that s is, and whether it is one.
func read(s string) ([]int, bool) {
	var row []int
	for s != "" {
		n, size := binary.Uvarint([]byte(s))
		if size <= 0 || n > math.MaxInt || write([]int{int(n)}) != s[:size] {
			return nil, false
		}
		row = append(row, int(n))
		s = s[size:]
	}
	return row, true
}

// command tells whether s is a command's bytes: by how many numbers it must have, and how great each may be.
func command(s string) bool {
	row, ok := read(s)
	if !ok || len(row) == 0 {
		return false
	}
	parents := map[int]bool{}
	size := map[int]int{api.CmdSubmit: 10, api.CmdFinish: 2, api.CmdCancel: 2, api.CmdTick: 2, api.CmdCycle: 1}[row[0]]
	if row[0] == api.CmdConfig {
		if len(row) < 2 || row[1] > 12 || len(row) < 3+11*row[1] || row[2+11*row[1]] > 24 {
			return false
		}
		for i := range row[1] {
			parents[2+11*i] = true
		}
		size = 3 + 11*row[1] + 6*row[2+11*row[1]] + 2
	}
	for i, n := range row {
		if n > limit && (n != limit+1 || !parents[i]) {
			return false
		}
	}
	return len(row) == size
}

// clone is c with lists of its own.
func clone(c api.Command) api.Command {
	c.Config.Nodes, c.Config.Hosts = slices.Clone(c.Config.Nodes), slices.Clone(c.Config.Hosts)
	return c
}

// numbered is a command of that Kind and so many nodes and hosts, whose numbers are all others, from first on.
func numbered(kind, nodes, hosts, first int) api.Command {
	c := api.Command{Kind: kind}
	if kind == api.CmdConfig {
		c.Config.Nodes, c.Config.Hosts = make([]api.Node, nodes), make([]api.Host, hosts)
	}
	for i, f := range fields(&c) {
		*f.at = first + i
	}
	return c
}

// good are commands that may be: of each Kind, with small and great numbers, and with as many nodes and hosts as may be.
func good() []api.Command {
	var l []api.Command
	for kind := api.CmdConfig; kind <= api.CmdCycle; kind++ {
		for _, first := range []int{0, 1, 100, 1 << 14, 1 << 30, limit - 1000} {
			l = append(l, numbered(kind, 3, 2, first))
		}
		for _, n := range []int{0, 1, 127, 128, limit - 1, limit} {
			c := numbered(kind, 2, 2, 0)
			for _, f := range fields(&c) {
				*f.at = n
			}
			l = append(l, c)
		}
	}
	for _, size := range [][2]int{{0, 0}, {1, 0}, {0, 1}, {1, 1}, {11, 23}, {12, 24}, {12, 0}, {0, 24}} {
		l = append(l, numbered(api.CmdConfig, size[0], size[1], 5))
	}
	root := numbered(api.CmdConfig, 3, 1, 0)
	for i := range root.Config.Nodes {
		root.Config.Nodes[i].Parent = i - 1
	}
	return append(l, root)
}

// checkRefused holds that c is refused by want, and that nothing stands beside it.
func checkRefused(t *testing.T, what string, c api.Command, want api.Errno) {
	t.Helper()
	if err := cmds.Check(c); err != want {
		t.Errorf("%s: Check: error %d, want %d", what, err, want)
	}
	if s, err := cmds.Encode(c); s != "" || err != want {
		t.Errorf("%s: Encode: %x, error %d, want %d", what, s, err, want)
	}
}

// checkDecode holds that s is read if it is a command's, and as the command whose bytes they are.
func checkDecode(t *testing.T, s string) {
	t.Helper()
	c, err := cmds.Decode(s)
	if command(s) {
		if err != api.OK || encode(c) != s || cmds.Check(c) != api.OK {
			t.Errorf("Decode(%x): %+v, error %d", s, c, err)
		}
		return
	}
	if err != api.ErrSyntax || !cmds.Same(c, api.Command{}) {
		t.Errorf("Decode(%x): %+v, error %d, but it is no command", s, c, err)
	}
}

// 8.1: the chapter's own examples, and each Kind's bytes, written out.
func TestBytes(t *testing.T) {
	node := api.Node{Parent: -1, Weight: 2, Nominal: api.Vec{3, 4, 5}, Borrow: api.Vec{6, 7, 8}, Lend: api.Vec{9, 10, 11}}
	below := api.Node{Parent: 0, Weight: 300}
	host := api.Host{Flavor: 12, Block: 13, Rack: 14, Cap: api.Vec{15, 16, 17}}
	gang := api.Gang{Id: 1, Tenant: 2, Pods: 3, Need: api.Vec{4, 5, 6}, Run: 7, Level: 8, Prefer: 9}
	for _, x := range []struct {
		c api.Command
		s string
	}{
		{api.Command{Kind: api.CmdTick, N: 5}, "\x05\x05"},
		{api.Command{Kind: api.CmdFinish, N: 300}, "\x03\xac\x02"},
		{api.Command{Kind: api.CmdCancel}, "\x04\x00"},
		{api.Command{Kind: api.CmdCycle}, "\x06"},
		{api.Command{Kind: api.CmdSubmit, Gang: gang}, "\x02\x01\x02\x03\x04\x05\x06\x07\x08\x09"},
		{api.Command{Kind: api.CmdConfig}, "\x01\x00\x00\x00\x00"},
		{api.Command{Kind: api.CmdConfig, Config: api.Config{Half: 18, Age: 19}}, "\x01\x00\x00\x12\x13"},
		{api.Command{Kind: api.CmdConfig, Config: api.Config{Nodes: []api.Node{node, below}, Hosts: []api.Host{host}, Half: 18, Age: 19}},
			"\x01\x02\x00\x02\x03\x04\x05\x06\x07\x08\x09\x0a\x0b\x01\xac\x02\x00\x00\x00\x00\x00\x00\x00\x00\x00\x01\x0c\x0d\x0e\x0f\x10\x11\x12\x13"},
	} {
		if s, err := cmds.Encode(x.c); s != x.s || err != api.OK {
			t.Errorf("Encode(%+v): %x, error %d, want %x", x.c, s, err, x.s)
		}
		if c, err := cmds.Decode(x.s); !cmds.Same(c, x.c) || err != api.OK {
			t.Errorf("Decode(%x): %+v, error %d", x.s, c, err)
		}
	}
	for _, s := range []string{"\x06\x00", "", "\x00", "\x07", "\x05", "\x86\x00"} {
		checkDecode(t, s)
	}
}

// 8.1 and 8.2: what may be is written as the plain way writes it, and read again; cut short, or with more behind it, it is no command.
func TestEncodeAndDecode(t *testing.T) {
	for _, c := range good() {
		if err := cmds.Check(c); err != api.OK {
			t.Errorf("Check(%+v): error %d", c, err)
		}
		s, err := cmds.Encode(c)
		if s != encode(c) || err != api.OK {
			t.Errorf("Encode(%+v): %x, error %d, want %x", c, s, err, encode(c))
		}
		if d, err := cmds.Decode(s); !same(c, d) || err != api.OK {
			t.Errorf("Decode(%x): %+v, error %d, want %+v", s, d, err, c)
		}
		for size := range s {
			if d, err := cmds.Decode(s[:size]); err != api.ErrSyntax || !cmds.Same(d, api.Command{}) {
				t.Errorf("Decode(%x): %+v, error %d", s[:size], d, err)
			}
		}
		for _, rest := range []string{"\x00", "\x01", "\x80", "\xff", s} {
			if d, err := cmds.Decode(s + rest); err != api.ErrSyntax || !cmds.Same(d, api.Command{}) {
				t.Errorf("Decode(%x): %+v, error %d", s+rest, d, err)
			}
		}
	}
}

// same tells whether a and b are the same by the library's own comparing; an empty list is the same as none.
func same(a, b api.Command) bool {
	for _, c := range []*api.Command{&a, &b} {
		c.Config.Nodes, c.Config.Hosts = append([]api.Node{}, c.Config.Nodes...), append([]api.Host{}, c.Config.Hosts...)
	}
	return reflect.DeepEqual(a, b)
}

// 8.1: each number of each Kind may be from its least on to 2^40, and nothing else.
func TestCheckNumbers(t *testing.T) {
	for kind := api.CmdConfig; kind <= api.CmdCycle; kind++ {
		c := numbered(kind, 12, 24, 1)
		for _, f := range fields(&c) {
			kept := *f.at
			for _, n := range []int{math.MinInt, math.MinInt + 1, -limit, -2, -1, 0, 1, limit - 1, limit, limit + 1, limit + 2, 1 << 41, math.MaxInt - 1, math.MaxInt} {
				*f.at = n
				what := "Kind " + strconv.Itoa(kind) + ", " + f.name + " " + strconv.Itoa(n)
				if n < f.least || n > limit {
					checkRefused(t, what, c, api.ErrArg)
				} else if err := cmds.Check(c); err != api.OK {
					t.Errorf("%s: Check: error %d", what, err)
				}
			}
			*f.at = kept
		}
	}
}

// 8.1: what is no Kind is refused, whatever its fields are.
func TestCheckKinds(t *testing.T) {
	for _, kind := range []int{math.MinInt, -6, -1, 0, 7, 8, 256, 257, limit, 1<<32 + 1, math.MaxInt} {
		for _, fill := range good() {
			fill.Kind = kind
			checkRefused(t, "Kind "+strconv.Itoa(kind), fill, api.ErrArg)
		}
		checkRefused(t, "Kind "+strconv.Itoa(kind), api.Command{Kind: kind}, api.ErrArg)
	}
}

// 8.1: a field that is not the Kind's is zero; an empty list is, too.
func TestCheckOthersFields(t *testing.T) {
	for kind := api.CmdConfig; kind <= api.CmdCycle; kind++ {
		for other := api.CmdConfig; other <= api.CmdTick; other++ {
			c := numbered(kind, 1, 1, 1)
			for _, f := range others(&c, other, kind) {
				for _, n := range []int{-1, 1, limit, math.MaxInt, math.MinInt} {
					*f.at = n
					checkRefused(t, "Kind "+strconv.Itoa(kind)+", "+f.name+" "+strconv.Itoa(n), c, api.ErrArg)
				}
				*f.at = 0
			}
		}
		c := numbered(kind, 1, 1, 1)
		if kind == api.CmdConfig {
			continue
		}
		c.Config = api.Config{Nodes: []api.Node{}, Hosts: make([]api.Host, 0, 3)}
		if s, err := cmds.Encode(c); cmds.Check(c) != api.OK || err != api.OK || s != encode(c) {
			t.Errorf("Kind %d with empty lists: %x, error %d", kind, s, err)
		}
		for _, config := range []api.Config{{Nodes: make([]api.Node, 1)}, {Hosts: make([]api.Host, 1)}, {Nodes: make([]api.Node, 13)}, {Hosts: make([]api.Host, 25)}} {
			c.Config = config
			checkRefused(t, "Kind "+strconv.Itoa(kind)+" with lists", c, api.ErrArg)
		}
	}
}

// others are the numbers of c that are of a Kind, unless they are of the Kind own, too.
func others(c *api.Command, kind, own int) []field {
	byN := func(k int) bool { return k == api.CmdFinish || k == api.CmdCancel || k == api.CmdTick }
	if kind == own || byN(kind) && byN(own) {
		return nil
	}
	switch kind {
	case api.CmdConfig:
		return configFields(&c.Config)
	case api.CmdSubmit:
		return gangFields(&c.Gang)
	}
	return []field{{"N", &c.N, 0}}
}

// 8.1 and R2: too many nodes or hosts are ErrSize, but a number that may not be counts first, the ones past the limit too.
func TestCheckSizes(t *testing.T) {
	for _, size := range [][2]int{{13, 0}, {0, 25}, {13, 25}, {12, 25}, {13, 24}, {100, 1}, {1, 1000}} {
		c := numbered(api.CmdConfig, size[0], size[1], 0)
		what := strconv.Itoa(size[0]) + " nodes, " + strconv.Itoa(size[1]) + " hosts"
		checkRefused(t, what, c, api.ErrSize)
		checkDecode(t, encode(c))
		for _, f := range fields(&c) {
			kept := *f.at
			for _, n := range []int{-2, limit + 1} {
				*f.at = n
				checkRefused(t, what+", "+f.name, c, api.ErrArg)
			}
			*f.at = kept
		}
		c.N = 1
		checkRefused(t, what+", N", c, api.ErrArg)
	}
}

// 8.1 and T7: no short row of bytes is read but a command's.
func TestDecodeShort(t *testing.T) {
	for a := range 256 {
		checkDecode(t, string([]byte{byte(a)}))
		for b := range 256 {
			checkDecode(t, string([]byte{byte(a), byte(b)}))
			if a > 7 && a != 0x85 {
				continue
			}
			for c := range 256 {
				checkDecode(t, string([]byte{byte(a), byte(b), byte(c)}))
			}
		}
	}
}

// 8.1 and T7: a command's bytes with one of them another, one left out, or one put in, are read if they are a command's, and not otherwise.
func TestDecodeChanged(t *testing.T) {
	for _, c := range good() {
		s := encode(c)
		if len(s) > 400 {
			continue
		}
		for at := range s {
			checkDecode(t, s[:at]+s[at+1:])
			for _, b := range []byte{0, 1, 2, 11, 12, 13, 23, 24, 25, 127, 128, 129, 255, s[at] + 1, s[at] - 1, s[at] ^ 128} {
				checkDecode(t, s[:at]+string([]byte{b})+s[at+1:])
				checkDecode(t, s[:at]+string([]byte{b})+s[at:])
			}
		}
	}
}

// 8.1: each number of a row is read up to its limit, and not past it; a count past its limit is no command, however many there are.
func TestDecodeNumbers(t *testing.T) {
	rows := []string{encode(numbered(api.CmdConfig, 2, 2, 1)), encode(numbered(api.CmdConfig, 0, 0, 1)), encode(numbered(api.CmdConfig, 12, 24, 1))}
	for kind := api.CmdSubmit; kind <= api.CmdCycle; kind++ {
		rows = append(rows, encode(numbered(kind, 0, 0, 1)))
	}
	for _, s := range rows {
		row, _ := read(s)
		for at, kept := range row {
			for _, n := range []int{0, 1, 3, 12, 13, 24, 25, limit - 1, limit, limit + 1, limit + 2, 1 << 62, math.MaxInt} {
				row[at] = n
				checkDecode(t, write(row))
			}
			row[at] = kept
			checkDecode(t, write(row[:at])+"\x80\x00"+write(row[at+1:]))
			checkDecode(t, write(row[:at])+strings.Repeat("\xff", 9)+"\x01"+write(row[at+1:]))
		}
	}
	for _, n := range []int{13, 24, 25, 1000, 1 << 20} {
		checkDecode(t, write([]int{api.CmdConfig, n})+strings.Repeat("\x01", 11*min(n, 1000)+3))
		checkDecode(t, write([]int{api.CmdConfig, 0, n})+strings.Repeat("\x01", 6*min(n, 1000)+2))
	}
}

// 8.1: Same looks at all fields, those that are not the Kind's too, of whatever commands.
func TestSame(t *testing.T) {
	for kind := -1; kind <= 8; kind++ {
		full := func() api.Command {
			c := api.Command{Kind: kind, N: -7, Config: numbered(api.CmdConfig, 13, 3, -5).Config, Gang: numbered(api.CmdSubmit, 0, 0, limit).Gang}
			return c
		}
		a := full()
		if b := full(); !cmds.Same(a, b) || !cmds.Same(b, a) {
			t.Errorf("Kind %d: not the same as itself", kind)
		}
		b := full()
		for _, f := range slices.Concat([]field{{"Kind", &b.Kind, 0}, {"N", &b.N, 0}}, configFields(&b.Config), gangFields(&b.Gang)) {
			*f.at++
			if cmds.Same(a, b) || cmds.Same(b, a) {
				t.Errorf("Kind %d: the same with another %s", kind, f.name)
			}
			*f.at--
		}
		b.Config.Nodes = b.Config.Nodes[:12]
		if cmds.Same(a, b) || cmds.Same(b, a) {
			t.Errorf("Kind %d: the same with less nodes", kind)
		}
		b = full()
		b.Config.Hosts = append(b.Config.Hosts, api.Host{})
		if cmds.Same(a, b) || cmds.Same(b, a) {
			t.Errorf("Kind %d: the same with more hosts", kind)
		}
		b.Config.Hosts = nil
		c := clone(b)
		c.Config.Hosts = []api.Host{}
		if !cmds.Same(b, c) || !cmds.Same(c, b) || cmds.Same(a, b) {
			t.Errorf("Kind %d: an empty list is not the same as none", kind)
		}
	}
	swapped := numbered(api.CmdConfig, 2, 2, 1)
	slices.Reverse(swapped.Config.Nodes)
	if cmds.Same(swapped, numbered(api.CmdConfig, 2, 2, 1)) {
		t.Error("the same with nodes in another order")
	}
}

// R4: what is handed in stays, what lies behind its lists' ends too, and no two answers share a list.
func TestMemory(t *testing.T) {
	c := numbered(api.CmdConfig, 12, 24, 1)
	whole := clone(c)
	c.Config.Nodes, c.Config.Hosts = c.Config.Nodes[:5], c.Config.Hosts[:7]
	s, err := cmds.Encode(c)
	if cmds.Check(c) != api.OK || !cmds.Same(c, c) || err != api.OK {
		t.Errorf("error %d", err)
	}
	c.Config.Nodes, c.Config.Hosts = c.Config.Nodes[:12], c.Config.Hosts[:24]
	if !same(c, whole) {
		t.Error("what was handed in was changed")
	}
	a, _ := cmds.Decode(s)
	b, _ := cmds.Decode(s)
	for i := range a.Config.Nodes {
		a.Config.Nodes[i] = api.Node{}
	}
	clear(a.Config.Hosts)
	if again, _ := cmds.Encode(b); again != s {
		t.Error("two answers share a list")
	}
}
