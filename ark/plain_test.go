package ark

import (
	"math/rand"
	"strings"
	"testing"
	"unsafe"

	"graft/api"
)

// The chapter's words once more, as plainly as they stand there, for the tests to hold the package against.

func file(data string) api.Node {
	return api.Node{Kind: 1, Data: []byte(data)}
}

func run(data string) api.Node {
	return api.Node{Kind: 1, Exec: true, Data: []byte(data)}
}

func link(text string) api.Node {
	return api.Node{Kind: 2, Link: text}
}

func dir(l ...api.Entry) api.Node {
	return api.Node{Kind: 3, List: l}
}

func in(name string, n api.Node) api.Entry {
	return api.Entry{Name: name, Node: n}
}

// chain is a tree of that depth, with n at its end.
func chain(depth int, n api.Node) api.Node {
	for range depth - 1 {
		n = dir(in("d", n))
	}
	return n
}

// wide is a directory with so many entries.
func wide(entries int, n api.Node) api.Node {
	list := make([]api.Entry, entries)
	for i := range list {
		list[i] = in(string([]byte{byte('a' + i>>12), byte('A' + i>>8&15), byte('A' + i>>4&15), byte('A' + i&15)}), n)
	}
	return dir(list...)
}

// plainWords is words as an archive has them.
func plainWords(texts ...string) []byte {
	var out []byte
	for _, text := range texts {
		n := len(text)
		out = append(out, byte(n), byte(n>>8), byte(n>>16), byte(n>>24), 0, 0, 0, 0)
		out = append(out, text...)
		for len(out)%8 != 0 {
			out = append(out, 0)
		}
	}
	return out
}

// plainPrint is a node as 3.2 says it, be it one or not.
func plainPrint(n api.Node) []string {
	out := []string{"(", "type"}
	switch n.Kind {
	case 1:
		out = append(out, "regular")
		if n.Exec {
			out = append(out, "executable", "")
		}
		out = append(out, "contents", string(n.Data))
	case 2:
		out = append(out, "symlink", "target", n.Link)
	case 3:
		out = append(out, "directory")
		for _, x := range n.List {
			out = append(out, "entry", "(", "name", x.Name, "node")
			out = append(out, plainPrint(x.Node)...)
			out = append(out, ")")
		}
	}
	return append(out, ")")
}

// plainArk is a tree's archive, be it one or not.
func plainArk(n api.Node) []byte {
	return plainWords(append([]string{"graft-ark-1"}, plainPrint(n)...)...)
}

func plainName(name string) bool {
	return len(name) >= 1 && len(name) <= 255 && !strings.Contains(name, "\x00") && !strings.Contains(name, "/") && name != "." && name != ".."
}

func plainLink(text string) bool {
	return len(text) >= 1 && len(text) <= 1024 && !strings.Contains(text, "\x00")
}

// plainCheck is Check by the words of P3.1.
func plainCheck(n api.Node) (api.Errno, string) {
	count := 0
	if e, way := plainCheckNode(n, nil, &count); e != api.OK {
		return e, strings.Join(way, "/")
	}
	if len(plainArk(n)) > 1048576 {
		return api.ErrLarge, ""
	}
	return api.OK, ""
}

func plainCheckNode(n api.Node, way []string, count *int) (api.Errno, []string) {
	*count++
	switch {
	case *count == 4097:
		return api.ErrMany, way
	case len(way)+1 > 32:
		return api.ErrDeep, way
	case n.Kind != 1 && n.Kind != 2 && n.Kind != 3:
		return api.ErrNode, way
	case n.Kind != 1 && n.Exec, n.Kind != 1 && len(n.Data) != 0, n.Kind != 2 && n.Link != "", n.Kind != 3 && len(n.List) != 0:
		return api.ErrUnused, way
	case n.Kind == 2 && !plainLink(n.Link):
		return api.ErrLink, way
	}
	for i, x := range n.List {
		if !plainName(x.Name) {
			return api.ErrEntry, way
		}
		if i > 0 && strings.Compare(n.List[i-1].Name, x.Name) >= 0 {
			return api.ErrOrder, way
		}
		if e, w := plainCheckNode(x.Node, append(way[:len(way):len(way)], x.Name), count); e != api.OK {
			return e, w
		}
	}
	return api.OK, nil
}

// plainFault is how plainReader gives up.
type plainFault struct {
	e  api.Errno
	at int
}

type plainReader struct {
	data  []byte
	at    int
	nodes int
}

// plainParse is Parse by the words of P3.3 and P3.4.
func plainParse(data []byte) (n api.Node, e api.Errno, at int) {
	p := &plainReader{data: data}
	defer func() {
		if f, ok := recover().(plainFault); ok {
			n, e, at = api.Node{}, f.e, f.at
		}
	}()
	p.word("graft-ark-1")
	n = p.node(1)
	if p.at < len(data) {
		panic(plainFault{api.ErrTail, p.at})
	}
	return n, api.OK, 0
}

// take has the next n bytes there.
func (p *plainReader) take(n int) []byte {
	if len(p.data)-p.at < n {
		panic(plainFault{api.ErrShort, len(p.data)})
	}
	p.at += n
	return p.data[p.at-n : p.at]
}

// length reads a word's length, up to what must come.
func (p *plainReader) length() int {
	s := p.at
	n := 0
	for i, b := range p.take(8) {
		if i > 3 && b != 0 { // 2^32 or more
			panic(plainFault{api.ErrLarge, s})
		}
		n += int(b) << (8 * i)
	}
	if s+(8+n+7)/8*8 > 1048576 {
		panic(plainFault{api.ErrLarge, s})
	}
	return n
}

func (p *plainReader) padding() {
	for p.at%8 != 0 {
		if p.take(1)[0] != 0 {
			panic(plainFault{api.ErrPadding, p.at - 1})
		}
	}
}

func (p *plainReader) word(may ...string) string {
	s := p.at
	n := p.length()
	fits := false
	for _, m := range may {
		fits = fits || len(m) == n
	}
	if !fits {
		panic(plainFault{api.ErrToken, s})
	}
	text := string(p.take(n))
	for _, m := range may {
		if m == text {
			p.padding()
			return text
		}
	}
	panic(plainFault{api.ErrToken, s})
}

func (p *plainReader) name(list []api.Entry) string {
	s := p.at
	n := p.length()
	if n < 1 || n > 255 {
		panic(plainFault{api.ErrEntry, s})
	}
	text := p.take(n)
	for i, b := range text {
		if b == 0 || b == '/' {
			panic(plainFault{api.ErrEntry, s + 8 + i})
		}
	}
	if string(text) == "." || string(text) == ".." {
		panic(plainFault{api.ErrEntry, s})
	}
	if len(list) > 0 && strings.Compare(list[len(list)-1].Name, string(text)) >= 0 {
		panic(plainFault{api.ErrOrder, s})
	}
	p.padding()
	return string(text)
}

func (p *plainReader) link() string {
	s := p.at
	n := p.length()
	if n < 1 || n > 1024 {
		panic(plainFault{api.ErrLink, s})
	}
	text := p.take(n)
	for i, b := range text {
		if b == 0 {
			panic(plainFault{api.ErrLink, s + 8 + i})
		}
	}
	p.padding()
	return string(text)
}

func (p *plainReader) node(depth int) api.Node {
	s := p.at
	p.word("(")
	p.nodes++
	if p.nodes == 4097 {
		panic(plainFault{api.ErrMany, s})
	}
	if depth > 32 {
		panic(plainFault{api.ErrDeep, s})
	}
	p.word("type")
	var n api.Node
	switch p.word("regular", "symlink", "directory") {
	case "regular":
		n.Kind = 1
		if p.word("executable", "contents") == "executable" {
			n.Exec = true
			p.word("")
			p.word("contents")
		}
		n.Data = []byte(string(p.take(p.length())))
		p.padding()
		p.word(")")
	case "symlink":
		n.Kind = 2
		p.word("target")
		n.Link = p.link()
		p.word(")")
	case "directory":
		n.Kind = 3
		for p.word("entry", ")") == "entry" {
			p.word("(")
			p.word("name")
			name := p.name(n.List)
			p.word("node")
			n.List = append(n.List, in(name, p.node(depth+1)))
			p.word(")")
		}
	}
	return n
}

// alike tells whether two nodes are the same, be they trees or not.
func alike(a, b api.Node) bool {
	if a.Kind != b.Kind || a.Exec != b.Exec || string(a.Data) != string(b.Data) || a.Link != b.Link || len(a.List) != len(b.List) {
		return false
	}
	for i := range a.List {
		if a.List[i].Name != b.List[i].Name || !alike(a.List[i].Node, b.List[i].Node) {
			return false
		}
	}
	return true
}

// samples are trees of each kind and shape, the edges of names, texts and lengths among them.
func samples() []api.Node {
	long := strings.Repeat("n", 255)
	return []api.Node{
		file(""), file("hi"), file("8 bytes."), file("9 bytes.."), run(""), run("hi"), run("\x00\xff"),
		link("F"), link(strings.Repeat("t", 1024)), link("/a/../b"), link("8 bytes."), link("\xff\x01"),
		dir(),
		dir(in("a", file("hi"))),
		dir(in("d", dir(in("f", file("hi"))))),
		dir(in("a", file("hi")), in("b", run("x")), in("c", link("a")), in("d", dir()), in("e", dir(in("a", dir(in("b", link("..")))))), in("f", file(""))),
		dir(in("!", dir()), in("a", dir(in("z", dir()))), in("a!", file("1")), in("a.", file("2")), in("a0", file("3")), in("aa", file("4")), in("\xff", file("5"))),
		dir(in("\x01", file("low")), in("...", file("")), in("..a", file("")), in(".a", file(""))),
		dir(in("8 bytes.", run("8 bytes.")), in("9 bytes..", file("9 bytes.."))),
		dir(in(long, dir(in(long, dir())))),
		chain(32, file("deep")),
		dir(in("l", chain(30, dir(in("x", link("y")), in("y", file("z"))))), in("m", file("behind"))),
	}
}

// grow is some tree, of so many nodes at most.
func grow(x *rand.Rand, depth int, left *int) api.Node {
	*left--
	switch k := x.Intn(5); {
	case k == 0:
		return file(strings.Repeat("f", x.Intn(20)))
	case k == 1:
		return run(strings.Repeat("r", x.Intn(20)))
	case k == 2:
		return link(strings.Repeat("l", 1+x.Intn(20)))
	}
	var list []api.Entry
	name := ""
	for depth > 1 && *left > 0 && x.Intn(5) > 0 {
		name += string([]byte{"!-.09AZaz\x01\xff"[x.Intn(11)]})
		if x.Intn(3) == 0 {
			name = string([]byte{byte(min(255, int(name[0])+1+x.Intn(3)))})
		}
		if len(list) > 0 && name <= list[len(list)-1].Name || !plainName(name) {
			break
		}
		list = append(list, in(name, grow(x, depth-1, left)))
	}
	return dir(list...)
}

// grown is trees that chance makes, always the same ones.
func grown(count int) []api.Node {
	x := rand.New(rand.NewSource(3))
	var out []api.Node
	for range count {
		left := 1 + x.Intn(40)
		out = append(out, grow(x, 1+x.Intn(8), &left))
	}
	return out
}

// The samples are what they are said to be.
func TestSamples(t *testing.T) {
	kinds := 0
	for i, n := range append(samples(), grown(300)...) {
		if e, way := plainCheck(n); e != api.OK {
			t.Errorf("sample %d is no tree: %d, %q", i, e, way)
		}
		kinds |= 1 << n.Kind
	}
	if kinds != 2|4|8 {
		t.Errorf("kinds %b", kinds)
	}
}

// span is the memory of a list, its spare room too.
type span struct {
	from, to uintptr
}

func spanOf[T any](list []T) span {
	var x T
	from := uintptr(unsafe.Pointer(unsafe.SliceData(list)))
	return span{from, from + uintptr(cap(list))*unsafe.Sizeof(x)}
}

// spans is the memory of all lists of a node.
func spans(n api.Node) []span {
	out := []span{spanOf(n.Data), spanOf(n.List)}
	for _, x := range n.List {
		out = append(out, spans(x.Node)...)
	}
	return out
}

func fileSpans(files []api.File) []span {
	out := []span{spanOf(files)}
	for _, f := range files {
		out = append(out, spanOf(f.Data))
	}
	return out
}

// apart fails if two of the answers' lists have memory in common, or one with what was handed in.
func apart(t *testing.T, what string, answers, given []span) {
	t.Helper()
	meet := func(a, b span) bool { return a.from < a.to && b.from < b.to && a.from < b.to && b.from < a.to }
	for i, a := range answers {
		for _, b := range answers[:i] {
			if meet(a, b) {
				t.Fatalf("%s: two lists of the answer have memory in common", what)
			}
		}
		for _, b := range given {
			if meet(a, b) {
				t.Fatalf("%s: the answer has memory of what was handed in", what)
			}
		}
	}
}

// roomy is the node in memory with spare room, in which guards stand.
func roomy(n api.Node) api.Node {
	data := make([]byte, 0, len(n.Data)+16)
	data = append(data, n.Data...)
	copy(data[len(data):cap(data)], "spare room stays")
	n.Data = data
	list := make([]api.Entry, len(n.List)+2)
	for i, x := range n.List {
		list[i] = in(x.Name, roomy(x.Node))
	}
	list[len(n.List)] = in("spare", link("room"))
	list[len(n.List)+1] = in("stays", link("so"))
	n.List = list[:len(n.List)]
	return n
}

// isRoomy tells whether the node is still as roomy made it of the other.
func isRoomy(n, of api.Node) bool {
	if !alike(n, of) {
		return false
	}
	return guarded(n)
}

func guarded(n api.Node) bool {
	l := len(n.List)
	if string(n.Data[:cap(n.Data)][len(n.Data):]) != "spare room stays" || cap(n.List) != l+2 {
		return false
	}
	rest := n.List[: l+2 : l+2][l:]
	if rest[0].Name != "spare" || rest[0].Node.Link != "room" || rest[1].Name != "stays" || rest[1].Node.Link != "so" {
		return false
	}
	for _, x := range n.List {
		if !guarded(x.Node) {
			return false
		}
	}
	return true
}
