package forge

import (
	"maps"
	"regexp"
	"slices"
	"strings"

	"graft/api"
	"graft/ark"
	"graft/digest"
	"graft/label"
)

// A plain reading of 14.1: steps are told apart by patterns, and trees are files by their ways.

// plainForms is what each verb takes: w a word, r the rest.
var plainForms = map[string]string{
	"dir": "w", "file": "wr", "link": "wr", "copy": "ww", "move": "ww", "sum": "ww", "list": "ww", "text": "wr", "line": "wr",
	"add": "ww", "swap": "wwr", "exec": "w", "plain": "w", "drop": "w", "need": "w", "fail": "r",
}

var plainPatterns = func() map[string]*regexp.Regexp {
	out := map[string]*regexp.Regexp{}
	for verb, form := range plainForms {
		pattern := strings.NewReplacer("w", " ([^ ]+)", "r", " (.*)").Replace(form)
		out[verb] = regexp.MustCompile("(?s)^" + verb + pattern + "$")
	}
	return out
}()

// plainStep is a step's verb, and its words and rest as they stand.
func plainStep(arg string) (string, []string, bool) {
	for verb, pattern := range plainPatterns {
		if m := pattern.FindStringSubmatch(arg); m != nil {
			return verb, m[1:], true
		}
	}
	return "", nil, false
}

// plainSaid is what a word or a rest comes to be.
func plainSaid(text string, env []api.Pair) (string, bool) {
	var out []byte
	for at := 0; at < len(text); {
		switch {
		case text[at] != '$':
			out = append(out, text[at])
			at++
		case strings.HasPrefix(text[at:], "$$"):
			out = append(out, '$')
			at += 2
		case strings.HasPrefix(text[at:], "${"):
			end := strings.Index(text[at:], "}")
			if end < 0 {
				return "", false
			}
			i := slices.IndexFunc(env, func(p api.Pair) bool { return p.Key == text[at+2:at+end] })
			if i < 0 {
				return "", false
			}
			out = append(out, env[i].Value...)
			at += end + 1
		default:
			return "", false
		}
	}
	return string(out), true
}

// plainCheck goes by P14.1.
func plainCheck(r api.Recipe) (api.Errno, int) {
	for i, o := range r.Outputs {
		e, _ := label.Check(o.Name)
		if e != api.OK || i > 0 && !(r.Outputs[i-1].Name < o.Name) {
			return api.ErrArg, -1
		}
	}
	if len(r.Outputs) == 0 {
		return api.ErrArg, -1
	}
	if r.System != "any" || r.Builder != "builtin:make" {
		return api.ErrBuilder, -1
	}
	for i, arg := range r.Args {
		_, texts, ok := plainStep(arg)
		for _, text := range texts {
			_, may := plainSaid(text, r.Env)
			ok = ok && may
		}
		if !ok {
			return api.ErrStep, i
		}
	}
	return api.OK, 0
}

// plainFiles is nodes by their ways.
type plainFiles map[string]api.File

// below is the node at a way and all below it, by their ways from there on; none if there is no node.
func (f plainFiles) below(way string) plainFiles {
	out := plainFiles{}
	for w, x := range f {
		if w == way {
			out[""] = x
		} else if strings.HasPrefix(w, way+"/") {
			out[w[len(way)+1:]] = x
		}
	}
	return out
}

// tree is the tree whose nodes these are.
func (f plainFiles) tree() (api.Node, bool) {
	var list []api.File
	for way, x := range f {
		x.Way = way
		list = append(list, x)
	}
	n, e, _ := ark.Unflat(list)
	return n, e == api.OK
}

func plainFilesOf(n api.Node) plainFiles {
	out := plainFiles{}
	for _, x := range ark.Flat(n) {
		out[x.Way] = x
	}
	return out
}

// plainBench is the trees of a recipe that is run.
type plainBench struct {
	files  plainFiles
	roots  []string
	inputs []api.Object
}

func (b *plainBench) isWay(text string) bool {
	names := strings.Split(text, "/")
	for _, name := range names[1:] {
		if len(name) < 1 || len(name) > 255 || strings.ContainsRune(name, 0) || name == "." || name == ".." {
			return false
		}
	}
	return slices.Contains(b.roots, names[0])
}

// from is the nodes at and below a FROM; none if it is not there.
func (b *plainBench) from(text string) plainFiles {
	if !strings.HasPrefix(text, "/") {
		if !b.isWay(text) {
			return nil
		}
		return b.files.below(text)
	}
	l, names, e, _ := label.Split(text)
	if e != api.OK {
		return nil
	}
	for _, o := range b.inputs {
		if o.Label != l {
			continue
		}
		n, e, _ := ark.Parse(o.Ark)
		if e != api.OK {
			return nil
		}
		if len(names) == 0 {
			return plainFilesOf(n)
		}
		return plainFilesOf(n).below(strings.Join(names, "/"))
	}
	return nil
}

// lay makes nodes at and below a way.
func (b *plainBench) lay(way string, nodes plainFiles) bool {
	if _, there := b.files[way]; there || !b.isWay(way) {
		return false
	}
	if i := strings.LastIndex(way, "/"); i >= 0 && b.files[way[:i]].Kind != api.KindDir {
		return false
	}
	for w, x := range nodes {
		if w == "" {
			b.files[way] = x
		} else {
			b.files[way+"/"+w] = x
		}
	}
	return true
}

func (b *plainBench) take(way string) {
	maps.DeleteFunc(b.files, func(w string, _ api.File) bool { return w == way || strings.HasPrefix(w, way+"/") })
}

// fits says whether all trees that are there have archives.
func (b *plainBench) fits() bool {
	for _, root := range b.roots {
		if _, there := b.files[root]; there {
			if _, ok := b.files.below(root).tree(); !ok {
				return false
			}
		}
	}
	return true
}

func plainFile(text string) plainFiles {
	return plainFiles{"": {Kind: api.KindFile, Data: []byte(text)}}
}

// do goes by the table.
func (b *plainBench) do(verb string, said []string) bool {
	total := 0
	for _, text := range said {
		total += len(text)
	}
	if total > api.MaxArk {
		return false
	}
	switch verb {
	case "fail":
		return false
	case "need":
		return len(b.from(said[0])) > 0
	}
	way := said[0]
	if !b.isWay(way) {
		return false
	}
	there, isThere := b.files[way]
	switch verb {
	case "dir":
		return b.lay(way, plainFiles{"": {Kind: api.KindDir}})
	case "file":
		return b.lay(way, plainFile(said[1]))
	case "link":
		return b.lay(way, plainFiles{"": {Kind: api.KindLink, Link: said[1]}})
	case "copy", "sum", "list":
		nodes := b.from(said[1])
		if len(nodes) == 0 {
			return false
		}
		n, _ := nodes.tree()
		switch verb {
		case "sum":
			nodes = plainFile("sha256:" + hexOf(arkFor(n)) + "\n")
		case "list":
			nodes = plainFile(plainList(n))
		}
		return b.lay(way, nodes)
	case "move":
		if strings.HasPrefix(said[1], "/") {
			return false
		}
		nodes := b.from(said[1])
		b.take(said[1])
		return len(nodes) > 0 && b.lay(way, nodes)
	case "drop":
		b.take(way)
		return isThere
	}
	if there.Kind != api.KindFile {
		return false
	}
	switch verb {
	case "text":
		there.Data = append(slices.Clone(there.Data), said[1]...)
	case "line":
		there.Data = append(slices.Clone(there.Data), said[1]+"\n"...)
	case "add":
		x := b.from(said[1])[""]
		if x.Kind != api.KindFile {
			return false
		}
		there.Data = append(slices.Clone(there.Data), x.Data...)
	case "swap":
		text, ok := plainSwap(string(there.Data), said[1], said[2])
		if !ok {
			return false
		}
		there.Data = []byte(text)
	case "exec":
		there.Exec = true
	case "plain":
		there.Exec = false
	}
	b.files[way] = there
	return true
}

func hexOf(data []byte) string {
	sum := digest.Of(data)
	return digest.Hex(sum[:])
}

func plainList(n api.Node) string {
	var out strings.Builder
	for way, x := range ark.Each(n) {
		letter := "f"
		if x.Exec {
			letter = "x"
		}
		out.WriteString(map[int]string{api.KindDir: "d", api.KindLink: "l", api.KindFile: letter}[x.Kind] + " " + way + "\n")
	}
	return out.String()
}

func plainSwap(text, word, rest string) (string, bool) {
	if word == "" {
		return "", false
	}
	var out []byte
	for at := 0; at < len(text); {
		if len(out) > api.MaxArk {
			return "", false
		}
		if strings.HasPrefix(text[at:], word) {
			out = append(out, rest...)
			at += len(word)
		} else {
			out = append(out, text[at])
			at++
		}
	}
	return string(out), true
}

// plainRun goes by P14.2.
func plainRun(r api.Recipe, inputs []api.Object) ([]api.Node, api.Errno, int) {
	if e, n := plainCheck(r); e != api.OK {
		return nil, e, n
	}
	b := &plainBench{files: plainFiles{}, inputs: inputs, roots: []string{"tmp"}}
	for _, o := range r.Outputs {
		b.roots = append(b.roots, o.Name)
	}
	for i, arg := range r.Args {
		verb, texts, _ := plainStep(arg)
		var said []string
		for _, text := range texts {
			s, _ := plainSaid(text, r.Env)
			said = append(said, s)
		}
		if !b.do(verb, said) || !b.fits() {
			return nil, api.ErrStep, i
		}
	}
	var out []api.Node
	for _, o := range r.Outputs {
		n, ok := b.files.below(o.Name).tree()
		if !ok {
			return nil, api.ErrMade, len(r.Args)
		}
		out = append(out, n)
	}
	return out, api.OK, 0
}
