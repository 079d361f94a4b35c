// Package faces holds every package of the map against its signatures: a face that differs does not compile here.
package faces

import (
	"iter"
	"testing"

	"graft/api"
	"graft/ark"
	"graft/card"
	"graft/depot"
	"graft/desk"
	"graft/digest"
	"graft/engine"
	"graft/forge"
	"graft/graph"
	"graft/journal"
	"graft/label"
	"graft/modulo"
	"graft/note"
	"graft/press"
	"graft/recipe"
	"graft/shelf"
	"graft/sieve"
	"graft/sweep"
	"graft/wire"
)

func TestDigest(t *testing.T) {
	var _ func() *digest.Hasher = digest.New
	var _ func(*digest.Hasher, []byte) api.Errno = (*digest.Hasher).Write
	var _ func(*digest.Hasher) api.Sum = (*digest.Hasher).Sum
	var _ func(*digest.Hasher) int = (*digest.Hasher).Len
	var _ func(*digest.Hasher) *digest.Hasher = (*digest.Hasher).Clone
	var _ func(*digest.Hasher) = (*digest.Hasher).Reset
	var _ func([]byte) api.Sum = digest.Of
	var _ func([]byte, []byte) api.Sum = digest.Mac
	var _ func(api.Sum) api.Hash = digest.Fold
	var _ func([]byte) string = digest.Hex
	var _ func(string) ([]byte, api.Errno, int) = digest.UnHex
	var _ func([]byte) string = digest.Base32
	var _ func(string) ([]byte, api.Errno, int) = digest.UnBase32
	var _ func([]byte) string = digest.Base64
	var _ func(string) ([]byte, api.Errno, int) = digest.UnBase64
	var _ func(api.Sum, int) string = digest.Show
	var _ func(string) (api.Sum, int, api.Errno, int) = digest.Read
}

func TestLabel(t *testing.T) {
	var _ func(string) (api.Errno, int) = label.Check
	var _ func(string) (api.Label, api.Errno, int) = label.Parse
	var _ func(string) (api.Label, api.Errno, int) = label.ParseBase
	var _ func(api.Label) (string, api.Errno) = label.Print
	var _ func(api.Label) (string, api.Errno) = label.Base
	var _ func(api.Label, api.Label) int = label.Compare
	var _ func([]api.Label) []api.Label = label.Sort
	var _ func(string) (api.Label, []string, api.Errno, int) = label.Split
	var _ func(api.Finger) (string, api.Errno) = label.Say
	var _ func(string) (api.Finger, api.Errno) = label.Hear
	var _ func(api.Finger) (api.Label, api.Errno) = label.Call
	var _ func(string, []byte, []api.Label) (api.Label, api.Errno) = label.Text
	var _ func(string, api.Sum, []api.Label, bool) (api.Label, api.Errno) = label.Source
	var _ func(string, api.Sum, bool) (api.Label, api.Errno) = label.Fixed
	var _ func(api.Sum, string, string) (api.Label, api.Errno) = label.Output
	var _ func(api.Sum, int, string) (api.Label, api.Errno) = label.Member
}

func TestArk(t *testing.T) {
	var _ func(api.Node) (api.Errno, string) = ark.Check
	var _ func(api.Node) ([]byte, api.Errno) = ark.Print
	var _ func([]byte) (api.Node, api.Errno, int) = ark.Parse
	var _ func(api.Node) (int, api.Errno) = ark.Size
	var _ func(api.Node, string) (api.Node, api.Errno) = ark.Find
	var _ func(api.Node, api.Node) bool = ark.Equal
	var _ func(api.Node) []api.File = ark.Flat
	var _ func([]api.File) (api.Node, api.Errno, int) = ark.Unflat
	var _ func(api.Node) iter.Seq2[string, api.Node] = ark.Each
	var _ func() *ark.Reader = ark.NewReader
	var _ func(*ark.Reader, []byte) (api.Errno, int) = (*ark.Reader).Feed
	var _ func(*ark.Reader) (api.Node, api.Errno, int) = (*ark.Reader).Close
	var _ func(api.Node) (*ark.Writer, api.Errno) = ark.NewWriter
	var _ func(*ark.Writer, int) []byte = (*ark.Writer).Next
}

func TestPress(t *testing.T) {
	var _ func([]byte) []byte = press.Deflate
	var _ func([]byte, int) ([]byte, api.Errno, int) = press.Inflate
	var _ func([]byte) []byte = press.Gzip
	var _ func([]byte, int) ([]byte, api.Errno, int) = press.Gunzip
	var _ func([]byte) uint32 = press.Crc
	var _ func(int) (*press.Inflater, api.Errno) = press.NewInflater
	var _ func(*press.Inflater, []byte) ([]byte, api.Errno, int) = (*press.Inflater).Feed
	var _ func(*press.Inflater) (api.Errno, int) = (*press.Inflater).Close
}

func TestSieve(t *testing.T) {
	var _ func([]string) (*sieve.Sieve, api.Errno) = sieve.New
	var _ func(*sieve.Sieve) int = (*sieve.Sieve).Len
	var _ func(*sieve.Sieve) int = (*sieve.Sieve).Width
	var _ func(*sieve.Sieve, []byte) []api.Hit = (*sieve.Sieve).Scan
	var _ func(*sieve.Sieve, []byte, []string) ([]byte, api.Errno, int) = (*sieve.Sieve).Rewrite
	var _ func(*sieve.Sieve, []byte) ([]byte, []api.Hit, api.Errno, int) = (*sieve.Sieve).Mask
	var _ func([]api.Hit, int) int = sieve.Overlap
	var _ func(*sieve.Sieve) *sieve.Scanner = (*sieve.Sieve).Scanner
	var _ func(*sieve.Scanner, []byte) []api.Hit = (*sieve.Scanner).Feed
	var _ func(*sieve.Scanner) int = (*sieve.Scanner).At
	var _ func(*sieve.Scanner) int = (*sieve.Scanner).Held
	var _ func(*sieve.Sieve, []string) (*sieve.Rewriter, api.Errno) = (*sieve.Sieve).Rewriter
	var _ func(*sieve.Sieve) *sieve.Rewriter = (*sieve.Sieve).Masker
	var _ func(*sieve.Rewriter, []byte) ([]byte, api.Errno, int) = (*sieve.Rewriter).Feed
	var _ func(*sieve.Rewriter) ([]byte, api.Errno, int) = (*sieve.Rewriter).Close
	var _ func(*sieve.Rewriter) int = (*sieve.Rewriter).At
	var _ func(*sieve.Rewriter) int = (*sieve.Rewriter).Held
}

func TestRecipe(t *testing.T) {
	var _ func(string) (api.Recipe, api.Errno, int) = recipe.Read
	var _ func(api.Recipe) (string, api.Errno, int) = recipe.Print
	var _ func(api.Recipe) (api.Errno, int) = recipe.Check
	var _ func(api.Recipe) int = recipe.Mode
	var _ func(api.Recipe) api.Recipe = recipe.Blank
	var _ func(api.Recipe, []string) (api.Recipe, api.Errno) = recipe.Put
	var _ func(api.Recipe, []string, []string) (api.Recipe, api.Errno) = recipe.Swap
	var _ func(api.Recipe) ([]api.Label, api.Errno) = recipe.Refs
	var _ func(string, api.Recipe) (api.Label, api.Errno) = recipe.Call
}

func TestModulo(t *testing.T) {
	var _ func(string, api.Recipe, []api.Known) (api.Sum, api.Errno, int) = modulo.Hash
	var _ func(string, api.Recipe, []api.Known) (api.Recipe, api.Errno, int) = modulo.Fill
	var _ func(string, api.Recipe, []api.Known) (api.Errno, int) = modulo.Fits
	var _ func(api.Sum, string) string = modulo.Key
	var _ func(api.Sum, string) api.Hash = modulo.Scratch
	var _ func(string, string) string = modulo.Stand
	var _ func([]byte, []api.Hash) ([]byte, []api.Hit, api.Errno, int) = modulo.Mask
	var _ func([]api.Member) (api.Naming, api.Errno, int) = modulo.Group
	var _ func([]api.Member, api.Naming) ([][]byte, api.Errno) = modulo.Renamed
}

func TestGraph(t *testing.T) {
	var _ func(api.Graph) (api.Errno, int) = graph.Check
	var _ func(api.Graph) (api.Graph, api.Errno) = graph.Norm
	var _ func(api.Graph) (api.Graph, api.Errno) = graph.Transpose
	var _ func(api.Graph, []int) ([]int, api.Errno) = graph.Close
	var _ func(api.Graph, []int) iter.Seq2[int, int] = graph.Each
	var _ func(api.Graph, int, int) (bool, api.Errno) = graph.Reaches
	var _ func(api.Graph, int, int) ([]int, api.Errno) = graph.Way
	var _ func(api.Graph) ([][]int, api.Errno) = graph.Groups
	var _ func(api.Graph) (api.Graph, []int, api.Errno) = graph.Condense
	var _ func(api.Graph) ([]int, api.Errno) = graph.Order
	var _ func(api.Graph) ([]int, api.Errno) = graph.Levels
	var _ func(api.Graph) ([]int, api.Errno) = graph.Cycle
	var _ func(api.Graph) (api.Graph, api.Errno) = graph.Reduce
}

func TestNote(t *testing.T) {
	var _ func(string) (api.Note, api.Errno, int) = note.Parse
	var _ func(api.Note) api.Errno = note.Check
	var _ func(api.Note) (string, api.Errno) = note.Print
	var _ func(api.Note) (string, api.Errno) = note.Canon
	var _ func(string) (float64, api.Errno) = note.Number
	var _ func(float64) (string, api.Errno) = note.Show
	var _ func(api.Note) (int, bool) = note.Int
	var _ func(api.Note, string) (api.Note, api.Errno) = note.Find
	var _ func(api.Note, api.Note) bool = note.Equal
}

func TestCard(t *testing.T) {
	var _ func(string) (api.Card, api.Errno, int) = card.Read
	var _ func(api.Card) (string, api.Errno, int) = card.Print
	var _ func(api.Card) (api.Errno, int) = card.Check
	var _ func(api.Card) (string, api.Errno) = card.Says
	var _ func(api.Card, api.Key) (api.Card, api.Errno) = card.Sign
	var _ func(api.Card, []api.Key) bool = card.Proves
	var _ func(api.Object, string, string, []byte) (api.Card, api.Errno) = card.Tells
	var _ func(string) (api.Sign, api.Errno, int) = card.ReadSign
	var _ func(api.Sign) (string, api.Errno) = card.PrintSign
}

func TestJournal(t *testing.T) {
	var _ func(api.Disk) *journal.Device = journal.NewDevice
	var _ func(*journal.Device, int, []byte) api.Errno = (*journal.Device).Append
	var _ func(*journal.Device, int) api.Errno = (*journal.Device).Sync
	var _ func(*journal.Device, int, int) api.Errno = (*journal.Device).Cut
	var _ func(*journal.Device) api.Disk = (*journal.Device).Disk
	var _ func(*journal.Device) int = (*journal.Device).Count
	var _ func(*journal.Device, int, [2]int) (api.Disk, api.Errno) = (*journal.Device).At
	var _ func(api.Disk) (api.Story, api.Errno, int, int) = journal.Replay
	var _ func(*journal.Device, int) (*journal.Journal, api.Errno, int, int) = journal.Open
	var _ func(*journal.Journal, [][]byte) (int, api.Errno) = (*journal.Journal).Commit
	var _ func(*journal.Journal, [][]byte) api.Errno = (*journal.Journal).Compact
	var _ func(*journal.Journal) api.Story = (*journal.Journal).Story
	var _ func(*journal.Journal) iter.Seq2[int, [][]byte] = (*journal.Journal).Each
	var _ func(*journal.Journal) int = (*journal.Journal).Last
	var _ func(*journal.Journal) int = (*journal.Journal).Room
}

func TestShelf(t *testing.T) {
	var _ func(*journal.Device, int) (*shelf.Shelf, api.Errno, int, int) = shelf.Open
	var _ func(*shelf.Shelf, []api.Step) (api.Errno, int) = (*shelf.Shelf).Apply
	var _ func(*shelf.Shelf) api.Errno = (*shelf.Shelf).Compact
	var _ func(*shelf.Shelf, api.Label) (api.Object, api.Errno) = (*shelf.Shelf).Get
	var _ func(*shelf.Shelf, api.Label) bool = (*shelf.Shelf).Has
	var _ func(*shelf.Shelf, api.Hash) (api.Label, api.Errno) = (*shelf.Shelf).Named
	var _ func(*shelf.Shelf) []api.Label = (*shelf.Shelf).List
	var _ func(*shelf.Shelf, api.Label) []api.Label = (*shelf.Shelf).Referrers
	var _ func(*shelf.Shelf, []api.Label) ([]api.Label, api.Errno, int) = (*shelf.Shelf).Closure
	var _ func(*shelf.Shelf, api.Label) (api.Label, api.Errno) = (*shelf.Shelf).Same
	var _ func(*shelf.Shelf) []api.Same = (*shelf.Shelf).Sames
	var _ func(*shelf.Shelf, string) (api.Label, api.Errno) = (*shelf.Shelf).Made
	var _ func(*shelf.Shelf) []api.Made = (*shelf.Shelf).Mades
	var _ func(*shelf.Shelf, string) ([]byte, api.Errno) = (*shelf.Shelf).Value
	var _ func(*shelf.Shelf) []string = (*shelf.Shelf).Keys
	var _ func(*shelf.Shelf) api.Stat = (*shelf.Shelf).Stat
	var _ func(*shelf.Shelf) int = (*shelf.Shelf).Last
}

func TestSweep(t *testing.T) {
	var _ func(*shelf.Shelf, string, api.Label) api.Errno = sweep.Keep
	var _ func(*shelf.Shelf, string) api.Errno = sweep.Release
	var _ func(*shelf.Shelf) []api.Root = sweep.Roots
	var _ func(*shelf.Shelf, string, api.Label) (int, api.Errno) = sweep.Advance
	var _ func(*shelf.Shelf, string, int) api.Errno = sweep.Switch
	var _ func(*shelf.Shelf, string, int) (int, api.Errno) = sweep.Trim
	var _ func(*shelf.Shelf) []api.Profile = sweep.Profiles
	var _ func(*shelf.Shelf, []api.Label) []api.Label = sweep.Live
	var _ func(*shelf.Shelf, []api.Label, int) [][]api.Label = sweep.Plan
	var _ func(*shelf.Shelf, []api.Label, int) ([]api.Label, int, api.Errno) = sweep.Collect
}

func TestForge(t *testing.T) {
	var _ func(api.Recipe) (api.Errno, int) = forge.Check
	var _ func(api.Recipe, []api.Object) ([]api.Node, api.Errno, int) = forge.Run
	var _ func(*shelf.Shelf, []api.Want) ([]api.Label, api.Errno, api.Label) = forge.Plan
	var _ func(*shelf.Shelf, api.Label) (api.Recipe, api.Errno, api.Label) = forge.Resolve
	var _ func(*shelf.Shelf, []api.Want, int) (api.Forging, api.Errno) = forge.Make
}

func TestEngine(t *testing.T) {
	var _ func(*journal.Device, int) (*engine.Engine, api.Errno, int, int) = engine.Open
	var _ func(*engine.Engine, []api.Object, int) api.Outcome = (*engine.Engine).Import
	var _ func(*engine.Engine, string, []byte, []api.Label) api.Outcome = (*engine.Engine).AddText
	var _ func(*engine.Engine, string, api.Node) api.Outcome = (*engine.Engine).AddTree
	var _ func(*engine.Engine, []api.Label, int) api.Outcome = (*engine.Engine).Rewrite
	var _ func(*engine.Engine, api.Label) (api.Label, api.Errno) = (*engine.Engine).Lookup
	var _ func(*engine.Engine, api.Label) (api.Object, api.Errno) = (*engine.Engine).Read
	var _ func(*engine.Engine, api.Label, int) api.Outcome = (*engine.Engine).Verify
	var _ func(*engine.Engine) *shelf.Shelf = (*engine.Engine).Shelf
}

func TestWire(t *testing.T) {
	var _ func(api.Ask) ([]byte, api.Errno) = wire.Encode
	var _ func([]byte) (api.Ask, api.Errno, int) = wire.Decode
	var _ func(api.Say) ([]byte, api.Errno) = wire.EncodeSay
	var _ func([]byte) (api.Say, api.Errno, int) = wire.DecodeSay
	var _ func(*engine.Engine) *wire.Session = wire.NewSession
	var _ func(*wire.Session, []byte) []byte = (*wire.Session).Feed
	var _ func(*wire.Session) bool = (*wire.Session).Open
	var _ func([]api.Object) ([]byte, api.Errno) = wire.Export
	var _ func() *wire.Intake = wire.NewIntake
	var _ func(*wire.Intake, []byte) (api.Errno, int) = (*wire.Intake).Feed
	var _ func(*wire.Intake) ([]api.Object, api.Errno, int) = (*wire.Intake).Close
}

func TestDepot(t *testing.T) {
	var _ func(*shelf.Shelf, []api.DepotFile, []api.Label, []api.Key, string) ([]api.DepotFile, api.Errno, api.Label) = depot.Push
	var _ func(*shelf.Shelf, []api.DepotFile, []api.Label, []api.Key) ([]api.Label, api.Errno, api.Label) = depot.Pull
	var _ func([]api.DepotFile, []api.Key) (api.Errno, string) = depot.Check
	var _ func([]api.DepotFile, []api.Label) ([]string, api.Errno) = depot.Lacks
	var _ func([]api.DepotFile, []api.Label) ([]api.DepotFile, api.Errno) = depot.Prune
}

func TestDesk(t *testing.T) {
	var _ func(string) (string, api.Errno, int) = desk.Play
	var _ func([]string, int) ([]string, api.Errno) = desk.Batch
}
