// Package language holds the program's files against the rules of its language, as far as their text shows them.
package language

import (
	"go/ast"
	"go/format"
	"go/parser"
	"go/token"
	"io/fs"
	"os"
	"path/filepath"
	"slices"
	"strconv"
	"strings"
	"testing"
)

const (
	root     = ".."
	module   = "graft"
	maxLines = 60
)

var library = []string{
	"bytes", "cmp", "container/heap", "errors", "iter", "maps", "math", "math/big", "math/bits", "slices", "sort",
	"strconv", "strings", "sync", "sync/atomic", "unicode", "unicode/utf8",
}

var syncTypes = []string{"Mutex", "RWMutex", "WaitGroup", "Once"}

var packages = []string{
	"api", "digest", "label", "ark", "press", "sieve", "recipe", "modulo", "graph", "note", "card",
	"journal", "shelf", "sweep", "forge", "engine", "wire", "depot", "desk",
}

// startUp is how many variables of a package start-up code fills, as the document's section 'Ways' asks.
var startUp = map[string]int{
	"ark":   1, // the grammar's words
	"press": 2, // the fixed codes
}

// folders is every folder of the program; sharedtests is laid beside it when all tests are run.
func folders(t *testing.T) []string {
	t.Helper()
	var out []string
	list, err := os.ReadDir(root)
	if err != nil {
		t.Fatal(err)
	}
	for _, x := range list {
		if x.IsDir() && !strings.HasPrefix(x.Name(), ".") && x.Name() != "sharedtests" {
			out = append(out, x.Name())
		}
	}
	return out
}

type source struct {
	folder string
	path   string
	text   []byte
	set    *token.FileSet
	file   *ast.File
}

// sources is every Go file of the program that is no test.
func sources(t *testing.T) []source {
	t.Helper()
	var out []source
	for _, folder := range folders(t) {
		err := filepath.WalkDir(filepath.Join(root, folder), func(path string, d fs.DirEntry, err error) error {
			if err != nil || d.IsDir() || !strings.HasSuffix(path, ".go") || strings.HasSuffix(path, "_test.go") {
				return err
			}
			text, err := os.ReadFile(path)
			if err != nil {
				return err
			}
			set := token.NewFileSet()
			file, err := parser.ParseFile(set, path, text, parser.ParseComments)
			out = append(out, source{folder, path, text, set, file})
			return err
		})
		if err != nil {
			t.Fatal(err)
		}
	}
	if len(out) < len(packages) {
		t.Fatalf("only %d files", len(out))
	}
	return out
}

func TestFolders(t *testing.T) {
	have := folders(t)
	for _, p := range packages {
		if !slices.Contains(have, p) {
			t.Errorf("package %s is missing", p)
		}
	}
	for _, p := range have {
		if p == "form" || p == "try" || strings.HasPrefix(p, module) {
			t.Errorf("a folder is named %s", p)
		}
	}
}

// Rule 2: no file beside the Go files.
func TestGoFilesAlone(t *testing.T) {
	for _, p := range folders(t) {
		list, err := os.ReadDir(filepath.Join(root, p))
		if err != nil {
			t.Fatal(err)
		}
		for _, x := range list {
			if !x.IsDir() && !strings.HasSuffix(x.Name(), ".go") {
				t.Errorf("%s/%s is no Go file", p, x.Name())
			}
		}
	}
}

// Rule 1.
func TestImports(t *testing.T) {
	for _, s := range sources(t) {
		for _, x := range s.file.Imports {
			path, _ := strconv.Unquote(x.Path.Value)
			if !slices.Contains(library, path) && !strings.HasPrefix(path, module+"/") {
				t.Errorf("%s imports %s", s.path, path)
			}
		}
		ast.Inspect(s.file, func(n ast.Node) bool {
			if x, ok := n.(*ast.SelectorExpr); ok {
				if of, ok := x.X.(*ast.Ident); ok && of.Name == "sync" && !slices.Contains(syncTypes, x.Sel.Name) {
					t.Errorf("%s uses sync.%s", s.path, x.Sel.Name)
				}
			}
			return true
		})
	}
}

// Rule 2: no line for the compiler, no build tag, no printing.
func TestNoDirectives(t *testing.T) {
	for _, s := range sources(t) {
		for _, g := range s.file.Comments {
			for _, c := range g.List {
				if strings.HasPrefix(c.Text, "//go:") || strings.HasPrefix(c.Text, "// +build") || strings.HasPrefix(c.Text, "//line") {
					t.Errorf("%s has the line %s", s.path, c.Text)
				}
			}
		}
		ast.Inspect(s.file, func(n ast.Node) bool {
			if c, ok := n.(*ast.CallExpr); ok {
				if f, ok := c.Fun.(*ast.Ident); ok && (f.Name == "print" || f.Name == "println") {
					t.Errorf("%s prints", s.path)
				}
			}
			return true
		})
	}
}

// Rules 3a and 3b: a variable at package level has a value that is written out there.
func TestPackageVariables(t *testing.T) {
	filled := map[string]int{}
	for _, s := range sources(t) {
		for _, d := range s.file.Decls {
			g, ok := d.(*ast.GenDecl)
			if !ok || g.Tok != token.VAR {
				continue
			}
			for _, x := range g.Specs {
				for _, fault := range variableFaults(x.(*ast.ValueSpec)) {
					filled[s.folder]++
					if filled[s.folder] > startUp[s.folder] {
						t.Errorf("%s: %s", s.path, fault)
					}
				}
			}
		}
	}
}

// variableFaults says of each of some variables what it is that it may not be.
func variableFaults(v *ast.ValueSpec) []string {
	var out []string
	for i, name := range v.Names {
		fault := "has no value of its own"
		if i < len(v.Values) {
			fault = valueFault(v.Values[i])
		}
		if fault != "" {
			out = append(out, name.Name+" "+fault)
		}
	}
	return out
}

// valueFault says what a package-level value is that it may not be; "" if it may be.
func valueFault(value ast.Expr) string {
	if call, ok := value.(*ast.CallExpr); ok {
		if f, ok := call.Fun.(*ast.SelectorExpr); ok && f.Sel.Name == "New" {
			if of, ok := f.X.(*ast.Ident); ok && of.Name == "errors" {
				return ""
			}
		}
	}
	fault := ""
	ast.Inspect(value, func(n ast.Node) bool {
		switch x := n.(type) {
		case *ast.CallExpr:
			fault = "is made by a call"
		case *ast.MapType:
			fault = "is a map"
		case *ast.FuncLit, *ast.FuncType:
			fault = "is a function"
		case *ast.UnaryExpr:
			if x.Op == token.AND {
				fault = "is a pointer"
			}
		case *ast.BasicLit:
			if x.Kind == token.FLOAT {
				fault = "is a float"
			}
		}
		return true
	})
	if x, ok := value.(*ast.BasicLit); ok && x.Kind == token.STRING {
		fault = "is a text"
	}
	return fault
}

// Rule 9.
func TestLayout(t *testing.T) {
	for _, s := range sources(t) {
		laid, err := format.Source(s.text)
		if err != nil || string(laid) != string(s.text) {
			t.Errorf("%s has not gofmt's layout", s.path)
		}
		for _, d := range s.file.Decls {
			if f, ok := d.(*ast.FuncDecl); ok {
				if n := s.set.Position(f.End()).Line - s.set.Position(f.Pos()).Line + 1; n > maxLines {
					t.Errorf("%s: %s has %d lines", s.path, f.Name.Name, n)
				}
			}
		}
	}
}
