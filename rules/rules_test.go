// Package rules has tests alone: they hold all of the program's code against the rules of its language and the map of its layers.
package rules

import (
	"bytes"
	"go/ast"
	"go/format"
	"go/parser"
	"go/token"
	"io/fs"
	"os"
	"path/filepath"
	"slices"
	"strconv"
	"strings"
	"testing"
)

const root = ".."

// library is what the program may import beside its own packages.
var library = strings.Fields("bytes cmp container/heap errors iter maps math math/bits slices sort strconv strings sync sync/atomic unicode unicode/utf8")

// layers says which packages a layer calls; every one may import api.
var layers = map[string]string{
	"api": "", "word": "", "wire": "", "share": "", "path": "", "extent": "", "region": "", "proc": "",
	"mem": "", "lock": "", "ring": "", "comb": "",
	"frame": "word", "entry": "word", "inode": "extent", "sched": "share", "call": "wire",
	"radix": "entry frame word", "space": "region radix frame word",
	"names": "inode path", "desc": "names inode",
	"kern":    "inode names desc frame space proc sched call wire",
	"replica": "ring comb", "multi": "replica kern call",
	"desk": "word wire share path extent frame entry radix region space inode names desc proc sched call kern mem lock ring comb replica multi",
}

// faults are what a file of the folder has that the rules refuse.
func faults(folder, source string) []string {
	fset := token.NewFileSet()
	f, err := parser.ParseFile(fset, "source.go", source, parser.ParseComments)
	if err != nil {
		return []string{err.Error()}
	}
	var out []string
	if pretty, err := format.Source([]byte(source)); err != nil || !bytes.Equal(pretty, []byte(source)) {
		out = append(out, "layout is not gofmt's")
	}
	out = append(out, importFaults(folder, f)...)
	for _, g := range f.Comments {
		for _, c := range g.List {
			if strings.HasPrefix(c.Text, "//go:") || strings.HasPrefix(c.Text, "// +build") {
				out = append(out, "line "+c.Text)
			}
		}
	}
	for _, d := range f.Decls {
		switch x := d.(type) {
		case *ast.FuncDecl:
			out = append(out, funcFaults(fset, x)...)
		case *ast.GenDecl:
			out = append(out, varFaults(x)...)
		}
	}
	return out
}

func importFaults(folder string, f *ast.File) []string {
	var out []string
	calls, layer := layers[folder]
	for _, i := range f.Imports {
		name, _ := strconv.Unquote(i.Path.Value)
		own, ours := strings.CutPrefix(name, "hayward/")
		_, below := layers[own]
		switch {
		case i.Name != nil && (i.Name.Name == "." || i.Name.Name == "_"):
			out = append(out, "import "+i.Name.Name)
		case !ours && !slices.Contains(library, name):
			out = append(out, "import of "+name)
		case ours && layer && below && own != "api" && !slices.Contains(strings.Fields(calls), own):
			out = append(out, "import of layer "+own)
		}
	}
	return out
}

func funcFaults(fset *token.FileSet, x *ast.FuncDecl) []string {
	var out []string
	if n := fset.Position(x.End()).Line - fset.Position(x.Pos()).Line + 1; n > 60 {
		out = append(out, "function "+x.Name.Name+" has "+strconv.Itoa(n)+" lines")
	}
	if x.Recv == nil && x.Name.Name == "init" {
		out = append(out, "init")
	}
	ast.Inspect(x, func(n ast.Node) bool {
		if c, ok := n.(*ast.CallExpr); ok {
			if f, ok := c.Fun.(*ast.Ident); ok && (f.Name == "print" || f.Name == "println") {
				out = append(out, f.Name)
			}
		}
		return true
	})
	return out
}

// varFaults refuses variables without a value, and values that are texts, maps, functions, pointers or made by a call.
func varFaults(x *ast.GenDecl) []string {
	if x.Tok != token.VAR {
		return nil
	}
	var out []string
	for _, s := range x.Specs {
		v := s.(*ast.ValueSpec)
		if len(v.Values) == 0 {
			out = append(out, "variable "+v.Names[0].Name+" without a value")
		}
		for _, e := range v.Values {
			ast.Inspect(e, func(n ast.Node) bool {
				if bad := valueFault(n); bad != "" {
					out = append(out, "variable "+v.Names[0].Name+" has "+bad)
					return false
				}
				return true
			})
		}
		if len(v.Values) == 1 {
			if b, ok := v.Values[0].(*ast.BasicLit); ok && b.Kind == token.STRING {
				out = append(out, "variable "+v.Names[0].Name+" is a text")
			}
		}
	}
	return out
}

func valueFault(n ast.Node) string {
	switch y := n.(type) {
	case *ast.MapType:
		return "a map"
	case *ast.FuncLit, *ast.FuncType:
		return "a function"
	case *ast.UnaryExpr:
		if y.Op == token.AND {
			return "a pointer"
		}
	case *ast.CallExpr:
		s, ok := y.Fun.(*ast.SelectorExpr)
		if !ok || s.Sel.Name != "New" {
			return "a call"
		}
		if p, ok := s.X.(*ast.Ident); !ok || p.Name != "errors" {
			return "a call"
		}
	}
	return ""
}

// skipped are folders that are no part of the program: hidden ones, and the tests that are laid beside it.
func skipped(name string) bool {
	return strings.HasPrefix(name, ".") && name != "." && name != ".." || name == "sharedtests"
}

func TestProgram(t *testing.T) {
	seen := map[string]bool{}
	err := filepath.WalkDir(root, func(file string, d fs.DirEntry, err error) error {
		if err != nil {
			return err
		}
		if d.IsDir() {
			if skipped(d.Name()) {
				return filepath.SkipDir
			}
			return nil
		}
		name, _ := filepath.Rel(root, file)
		folder := filepath.ToSlash(filepath.Dir(name))
		if folder != "." && !strings.HasSuffix(name, ".go") {
			t.Errorf("%s: no Go file", name)
		}
		if !strings.HasSuffix(name, ".go") || strings.HasSuffix(name, "_test.go") {
			return nil
		}
		seen[folder] = true
		b, err := os.ReadFile(file)
		if err != nil {
			return err
		}
		for _, x := range faults(folder, string(b)) {
			t.Errorf("%s: %s", name, x)
		}
		return nil
	})
	if err != nil {
		t.Fatal(err)
	}
	for l := range layers {
		if !seen[l] {
			t.Errorf("package %s is missing", l)
		}
	}
}

// TestFaults: what the rules refuse is found, and what they allow is not.
func TestFaults(t *testing.T) {
	const head = "package word\n\n"
	for _, c := range []struct{ source, want string }{
		{head + "import \"math/bits\"\n", ""},
		{head + "import \"hayward/api\"\n", ""},
		{head + "import \"fmt\"\n", "import of fmt"},
		{head + "import \"unsafe\"\n", "import of unsafe"},
		{head + "import . \"math\"\n", "import ."},
		{head + "import \"hayward/wire\"\n", "import of layer wire"},
		{"//go:build linux\n\n" + head[:13], "line //go:build linux"},
		{head + "var x  = 1\n", "layout is not gofmt's"},
		{head + "func init() {}\n", "init"},
		{head + "func f() { println() }\n", "println"},
		{head + "func f() {\n" + strings.Repeat("\tf()\n", 58) + "}\n", ""},
		{head + "func f() {\n" + strings.Repeat("\tf()\n", 59) + "}\n", "function f has 61 lines"},
		{head + "var x int\n", "variable x without a value"},
		{head + "var x = \"a\"\n", "variable x is a text"},
		{head + "var x = map[int]int{}\n", "variable x has a map"},
		{head + "var x = f()\n", "variable x has a call"},
		{head + "var x = func() {}\n", "variable x has a function"},
		{head + "var x = &y\n", "variable x has a pointer"},
		{head + "var x = errors.New(\"a\")\n", ""},
		{head + "var x = [3]int{1, 2, 3}\n", ""},
	} {
		if got := strings.Join(faults("word", c.source), "; "); got != c.want {
			t.Errorf("%q: %q; want %q", c.source, got, c.want)
		}
	}
}
