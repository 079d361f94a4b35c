package desk

import (
	"crypto/sha256"
	"encoding/hex"
	"encoding/json"
	"fmt"
	"math/big"
	"regexp"
	"slices"
	"strconv"
	"strings"

	"graft/api"
	"graft/ark"
	"graft/depot"
	"graft/engine"
	"graft/forge"
	"graft/journal"
	"graft/label"
	"graft/modulo"
	"graft/recipe"
	"graft/sweep"
	"graft/wire"
)

// The chapter read word by word: what the calls below answer is theirs; lines, words, nicks and how answers are told are done anew.

// plainTable: a command, and what its arguments are.
const plainTable = `
store STORE
label NEW HASH NAME
guest NICK REST
link NICK REST
import
text NEW WORD REST
tree NEW WORD REST
rewrite NICKS
lookup NICK
verify NICK
show NICK
list
sames
keep WORD NICK
release WORD
advance WORD NICK
switch WORD NUMBER
trim WORD NUMBER
live
collect NUMBER
recipe NEW WORD REST
make NICK
key WORD HEX
push NICKS
pull NICKS
files
turn FILE PLACE BYTE
carry STORE NICKS
ask HEX
compact
crash NUMBER NUMBER NUMBER
stat
`

var (
	plainWord   = regexp.MustCompile(`[^ ]+`)
	plainNick   = regexp.MustCompile(`^[a-z0-9]{1,16}$`)
	plainMarked = regexp.MustCompile(`^[a-z0-9]{1,16}!?$`)
	plainNumber = regexp.MustCompile(`^[0-9]{1,9}$`)
	plainName   = regexp.MustCompile(`^[A-Za-z0-9+_?=-][A-Za-z0-9+._?=-]{0,210}$`)
	plainHash   = regexp.MustCompile(`^[0-9abcdfghijklmnpqrsvwxyz]{32}$`)
	plainHex    = regexp.MustCompile(`^([0-9a-f][0-9a-f])+$`)
	plainSign   = regexp.MustCompile(`\$\$|%%|[$%][a-z0-9]{1,16}!?|[$%]`)
)

// plainRows is plainTable by command.
func plainRows() map[string][]string {
	out := map[string][]string{}
	for _, line := range strings.Split(strings.TrimSpace(plainTable), "\n") {
		words := strings.Fields(line)
		out[words[0]] = words[1:]
	}
	return out
}

type plainWorld struct {
	devices [5]*journal.Device // by the stores' numbers
	engines [5]*engine.Engine
	now     int
	files   []api.DepotFile
	keys    []api.Key
	nicks   map[string]api.Label // those with a mark too
	staged  []api.Object
	known   []api.Known
	text    string
	seen    []string // of each line that was done: its command, and ok or the error that was told
}

func newPlainWorld() *plainWorld {
	w := &plainWorld{now: 1, nicks: map[string]api.Label{}}
	for i := 1; i <= 4; i++ {
		w.open(i, api.Disk{})
	}
	return w
}

func (w *plainWorld) open(number int, d api.Disk) {
	w.devices[number] = journal.NewDevice(d)
	e, err, _, _ := engine.Open(w.devices[number], 1048576)
	if err != api.OK {
		panic(fmt.Sprint("P15.1: ", err))
	}
	w.engines[number] = e
}

// plainPlay is Play, and the world behind it.
func plainPlay(commands string) (*plainWorld, api.Errno, int) {
	w := newPlainWorld()
	if len(commands) > 65536 {
		return w, api.ErrLong, 0
	}
	all := strings.Split(commands, "\n")
	if all[len(all)-1] == "" {
		all = all[:len(all)-1]
	}
	for i, line := range all {
		if e := w.play(line); e != api.OK {
			return w, e, i + 1
		}
	}
	return w, api.OK, 0
}

// plainGiven is a command's arguments as they stand; labels by the place of their nick among them.
type plainGiven struct {
	words  []string
	labels map[int]api.Label
	rest   string
	named  []api.Label
}

func (g plainGiven) number(i int) int {
	n, err := strconv.Atoi(g.words[i])
	if err != nil {
		panic(err)
	}
	return n
}

// list is the labels of the arguments from a place on.
func (g plainGiven) list(from int) []api.Label {
	var out []api.Label
	for i := from; i < len(g.words); i++ {
		out = append(out, g.labels[i])
	}
	return out
}

func (w *plainWorld) play(line string) api.Errno {
	spans := plainWord.FindAllStringIndex(line, -1)
	if len(spans) == 0 || line[spans[0][0]] == '#' {
		return api.OK
	}
	command := line[spans[0][0]:spans[0][1]]
	kinds, ok := plainRows()[command]
	if !ok {
		return api.ErrWord
	}
	g := plainGiven{labels: map[int]api.Label{}}
	if n := len(kinds); n > 0 && kinds[n-1] == "REST" {
		kinds = kinds[:n-1]
		if len(spans)-1 < len(kinds) {
			return api.ErrGiven
		}
		if end := spans[len(kinds)][1]; end < len(line) {
			g.rest = line[end+1:]
		}
		if g.rest, g.named, ok = w.expand(g.rest); !ok {
			return api.ErrGiven
		}
		spans = spans[:len(kinds)+1]
	}
	if n := len(kinds); n > 0 && kinds[n-1] == "NICKS" {
		many := len(spans) - n
		if many < 1 || many > 16 {
			return api.ErrGiven
		}
		kinds = append(slices.Clone(kinds[:n-1]), slices.Repeat([]string{"NICK"}, many)...)
	}
	if len(spans)-1 != len(kinds) {
		return api.ErrGiven
	}
	for i, s := range spans[1:] {
		word := line[s[0]:s[1]]
		g.words = append(g.words, word)
		if !w.fits(kinds[i], word, i, g) {
			return api.ErrGiven
		}
	}
	before := len(w.text)
	w.do(command, g)
	w.seen = append(w.seen, command+" "+plainOutcome(w.text[before:]))
	return api.OK
}

// plainOutcome is ok, or the error that an answer ends with.
func plainOutcome(text string) string {
	answer := strings.Split(strings.TrimSuffix(text, "\n"), "\n")
	if words := strings.Fields(answer[len(answer)-1]); words[0] == "no" {
		return words[1]
	}
	return "ok"
}

func (w *plainWorld) fits(kind, word string, place int, g plainGiven) bool {
	isNumber := plainNumber.MatchString(word)
	number := 0
	if isNumber {
		number = g.number(place)
	}
	switch kind {
	case "STORE":
		return isNumber && number >= 1 && number <= 4
	case "NUMBER":
		return isNumber
	case "BYTE":
		return isNumber && number < 256
	case "FILE":
		return isNumber && number < len(w.files)
	case "PLACE":
		return isNumber && number < len(w.files[g.number(0)].Data)
	case "NEW":
		return plainNick.MatchString(word)
	case "NICK":
		l, ok := w.nicks[word]
		g.labels[place] = l
		return ok && plainMarked.MatchString(word)
	case "HASH":
		return plainHash.MatchString(word)
	case "NAME":
		return plainName.MatchString(word)
	case "HEX":
		return plainHex.MatchString(word)
	case "WORD":
		return true
	}
	panic("no kind " + kind)
}

func (w *plainWorld) expand(rest string) (string, []api.Label, bool) {
	ok := true
	var named []api.Label
	out := plainSign.ReplaceAllStringFunc(rest, func(s string) string {
		if s == "$$" || s == "%%" {
			return s[:1]
		}
		l, is := w.nicks[s[1:]]
		ok = ok && is
		if !slices.Contains(named, l) {
			named = append(named, l)
		}
		if s[0] == '$' {
			return plainPart(l)
		}
		return "/graft/store/" + plainBase(l)
	})
	slices.SortFunc(named, func(a, b api.Label) int { return strings.Compare(plainBase(a), plainBase(b)) })
	return out, named, ok
}

// plainDigits is bytes, the lowest first, as a number with so many digits of base 32.
func plainDigits(data []byte, digits int) string {
	b := slices.Clone(data)
	slices.Reverse(b)
	n, out := new(big.Int).SetBytes(b), ""
	for range digits {
		r := new(big.Int)
		n.DivMod(n, big.NewInt(32), r)
		out = string("0123456789abcdfghijklmnpqrsvwxyz"[r.Int64()]) + out
	}
	return out
}

func plainPart(l api.Label) string { return plainDigits(l.Hash[:], 32) }

func plainBase(l api.Label) string { return plainPart(l) + "-" + l.Name }

func plainSum(data []byte) string {
	s := sha256.Sum256(data)
	return "sha256:" + plainDigits(s[:], 52)
}

func (w *plainWorld) tell(form string, parts ...any) { w.text += fmt.Sprintf(form+"\n", parts...) }

// no tells a refusal; and whether there was one.
func (w *plainWorld) no(e api.Errno) bool {
	if e != api.OK {
		w.tell("no %d", e)
	}
	return e != api.OK
}

// noFor is no for an outcome.
func (w *plainWorld) noFor(o api.Outcome) bool {
	if o.Err == api.OK {
		return false
	}
	text := fmt.Sprintf("no %d", o.Err)
	if o.At != (api.Label{}) {
		text += " " + plainBase(o.At)
		if o.Other != (api.Label{}) {
			text += " " + plainBase(o.Other)
		}
	}
	w.tell("%s", text)
	return true
}

func (w *plainWorld) bases(labels []api.Label) {
	for _, l := range labels {
		w.tell("%s", plainBase(l))
	}
}

func (w *plainWorld) sames(sames []api.Same) {
	for _, s := range sames {
		w.tell("%s %s", plainBase(s.Old), plainBase(s.New))
	}
}

func (w *plainWorld) do(command string, g plainGiven) {
	switch command {
	case "store", "label", "guest", "link", "import", "text", "tree", "rewrite", "recipe":
		w.change(command, g)
	case "keep", "release", "advance", "switch", "trim", "live", "collect":
		w.sweep(command, g)
	case "key", "push", "pull", "files", "turn", "carry", "ask":
		w.pass(command, g)
	default:
		w.look(command, g)
	}
}

func (w *plainWorld) change(command string, g plainGiven) {
	e := w.engines[w.now]
	switch command {
	case "store":
		w.now = g.number(0)
		w.tell("store %d", w.now)
	case "label":
		l, _, _ := label.ParseBase(g.words[1] + "-" + g.words[2])
		w.nicks[g.words[0]] = l
		w.tell("label %s %s-%s", g.words[0], g.words[1], g.words[2])
	case "guest", "link":
		n := api.Node{Kind: api.KindFile, Data: []byte(g.rest)}
		if command == "link" {
			n = api.Node{Kind: api.KindLink, Link: g.rest}
		}
		data, err := ark.Print(n)
		if !w.no(err) {
			w.staged = append(w.staged, api.Object{Label: g.labels[0], Refs: g.named, Ark: data})
			w.tell("%s %s", command, g.words[0])
		}
	case "import":
		if !w.noFor(e.Import(w.staged, 16)) {
			w.tell("imported %d", len(w.staged))
		}
		w.staged = nil
	case "text":
		w.gives(command, g.words[0], e.AddText(g.words[1], []byte(g.rest), g.named))
	case "tree":
		file := api.Node{Kind: api.KindFile, Exec: true, Data: []byte(g.rest)}
		w.gives(command, g.words[0], e.AddTree(g.words[1], api.Node{Kind: api.KindDir, List: []api.Entry{{Name: "file", Node: file}}}))
	case "rewrite":
		w.rename(e.Rewrite(g.list(0), 16))
	case "recipe":
		w.recipe(g)
	}
}

func (w *plainWorld) gives(command, nick string, o api.Outcome) bool {
	if w.noFor(o) {
		return false
	}
	w.nicks[nick] = o.At
	w.tell("%s %s %s", command, nick, plainBase(o.At))
	return true
}

func (w *plainWorld) rename(o api.Outcome) {
	if w.noFor(o) {
		return
	}
	for _, s := range o.Map {
		var plain []string
		for nick, l := range w.nicks {
			if l == s.Old && !strings.HasSuffix(nick, "!") {
				plain = append(plain, nick)
			}
		}
		for _, nick := range plain {
			w.nicks[nick+"!"] = s.New
		}
	}
	w.tell("renamed %d", len(o.Map))
	w.sames(o.Map)
}

func (w *plainWorld) recipe(g plainGiven) {
	name := g.words[1]
	r, e, _ := recipe.Read(g.rest)
	if w.no(e) {
		return
	}
	full, e, _ := modulo.Fill(name, r, w.known)
	if w.no(e) {
		return
	}
	text, e, _ := recipe.Print(full)
	if w.no(e) {
		return
	}
	refs, e := recipe.Refs(full)
	if w.no(e) {
		return
	}
	o := w.engines[w.now].AddText(name+".recipe", []byte(text), refs)
	if !w.gives("recipe", g.words[0], o) {
		return
	}
	sum, e, _ := modulo.Hash(name, r, w.known)
	if e != api.OK {
		panic("P7.8")
	}
	w.known = append(w.known, api.Known{Recipe: "/graft/store/" + plainBase(o.At), Sum: sum})
}

func (w *plainWorld) look(command string, g plainGiven) {
	e := w.engines[w.now]
	s := e.Shelf()
	switch command {
	case "lookup":
		if l, err := e.Lookup(g.labels[0]); !w.no(err) {
			w.tell("lookup %s", plainBase(l))
		}
	case "verify":
		if !w.noFor(e.Verify(g.labels[0], 16)) {
			w.tell("right")
		}
	case "show":
		if o, err := e.Read(g.labels[0]); !w.no(err) {
			w.tell("show %s ca=%d refs=%d size=%d sum=%s", plainBase(o.Label), o.Ca, len(o.Refs), len(o.Ark), plainSum(o.Ark))
		}
	case "list":
		w.tell("list %d", len(s.List()))
		w.bases(s.List())
	case "sames":
		w.tell("sames %d", len(s.Sames()))
		w.sames(s.Sames())
	case "make":
		f, err := forge.Make(s, []api.Want{{Recipe: g.labels[0]}}, 1)
		if w.no(err) {
			return
		}
		w.tell("made %d", len(f.Mades))
		for _, m := range f.Mades {
			w.tell("%s %s", m.Key, plainBase(m.Label))
		}
	case "compact":
		if !w.no(s.Compact()) {
			w.tell("compact")
		}
	case "crash":
		n := w.devices[w.now].Count() - g.number(0)
		if n < 0 {
			n = 0
		}
		d, err := w.devices[w.now].At(n, [2]int{g.number(1), g.number(2)})
		if err != api.OK {
			panic("P11.3")
		}
		w.open(w.now, d)
		w.tell("crash %d", w.engines[w.now].Shelf().Last())
	case "stat":
		w.tell("%s", plainStat(s.Stat()))
	default:
		panic("no command " + command)
	}
}

func plainStat(c api.Stat) string {
	full := 0.0
	if c.Journal+c.Room > 0 {
		full = float64(c.Journal) / float64(c.Journal+c.Room)
	}
	text, err := json.Marshal(struct {
		Arks    int     `json:"arks"`
		Bytes   int     `json:"bytes"`
		Full    float64 `json:"full"`
		Mades   int     `json:"mades"`
		Objects int     `json:"objects"`
		Sames   int     `json:"sames"`
		Values  int     `json:"values"`
	}{c.Arks, c.Bytes, full, c.Mades, c.Objects, c.Sames, c.Values})
	if err != nil {
		panic(err)
	}
	return string(text)
}

func (w *plainWorld) sweep(command string, g plainGiven) {
	s := w.engines[w.now].Shelf()
	switch command {
	case "keep":
		if !w.no(sweep.Keep(s, g.words[0], g.labels[1])) {
			w.tell("kept %s", g.words[0])
		}
	case "release":
		if !w.no(sweep.Release(s, g.words[0])) {
			w.tell("released %s", g.words[0])
		}
	case "advance":
		if n, e := sweep.Advance(s, g.words[0], g.labels[1]); !w.no(e) {
			w.tell("%s at %d", g.words[0], n)
		}
	case "switch":
		if !w.no(sweep.Switch(s, g.words[0], g.number(1))) {
			w.tell("%s at %d", g.words[0], g.number(1))
		}
	case "trim":
		if n, e := sweep.Trim(s, g.words[0], g.number(1)); !w.no(e) {
			w.tell("%s less %d", g.words[0], n)
		}
	case "live":
		live := sweep.Live(s, nil)
		w.tell("live %d", len(live))
		w.bases(live)
	case "collect":
		gone, freed, e := sweep.Collect(s, nil, g.number(0))
		w.tell("swept %d freed %d", len(gone), freed)
		w.bases(gone)
		w.no(e)
	}
}

func (w *plainWorld) pass(command string, g plainGiven) {
	s := w.engines[w.now].Shelf()
	switch command {
	case "key":
		secret, err := hex.DecodeString(g.words[1])
		if err != nil {
			panic(err)
		}
		w.keys = append(w.keys, api.Key{Name: g.words[0], Secret: secret})
		w.tell("key %s", g.words[0])
	case "push":
		files, e, _ := depot.Push(s, w.files, g.list(0), w.keys, "gzip")
		if !w.no(e) {
			w.files = files
			w.tell("pushed %d", len(files))
		}
	case "pull":
		if l, e, _ := depot.Pull(s, w.files, g.list(0), w.keys); !w.no(e) {
			w.tell("pulled %d", len(l))
			w.bases(l)
		}
	case "files":
		w.tell("files %d", len(w.files))
		for _, f := range w.files {
			w.tell("%s %d %s", f.Name, len(f.Data), plainSum(f.Data))
		}
	case "turn":
		w.files[g.number(0)].Data[g.number(1)] = byte(g.number(2))
		w.tell("turn %s", w.files[g.number(0)].Name)
	case "carry":
		w.carry(g)
	case "ask":
		data, err := hex.DecodeString(g.words[0])
		if err != nil {
			panic(err)
		}
		w.tell("%s", strings.TrimSuffix(fmt.Sprintf("said %x", wire.NewSession(w.engines[w.now]).Feed(data)), " "))
	}
}

func (w *plainWorld) carry(g plainGiven) {
	s := w.engines[w.now].Shelf()
	closure, e, _ := s.Closure(g.list(1))
	if w.no(e) {
		return
	}
	var guests []api.Object
	for _, l := range closure {
		if o, _ := s.Get(l); o.Ca == 0 {
			guests = append(guests, o)
		}
	}
	stream, e := wire.Export(guests)
	if w.no(e) {
		return
	}
	in := wire.NewIntake()
	if e, _ := in.Feed(stream); w.no(e) {
		return
	}
	objects, e, _ := in.Close()
	if !w.no(e) && !w.noFor(w.engines[g.number(0)].Import(objects, 16)) {
		w.tell("carried %d", len(guests))
	}
}
