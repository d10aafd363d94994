// Package language has tests alone: they check rule 3a of ../shared/LANGUAGE.md, of which the compiler knows nothing.
package language

import (
	"go/ast"
	"go/build"
	"go/constant"
	"go/parser"
	"go/token"
	"go/types"
	"maps"
	"os"
	"os/exec"
	"path/filepath"
	"slices"
	"strconv"
	"strings"
	"testing"
)

const (
	module = "analemma"
	root   = ".." // of the module
)

// What a table can hold of each sort.
const (
	smallNumbers = 250
	words32      = 200
	words64      = 150
	shortStrings = 140
	shortString  = 5 // bytes
	smallRows    = 50
)

// most is how much all the tables that one call reaches can hold; 1 is what a table can hold.
const most = 2

// program is the packages of the module, and those of the standard library on which they depend.
type program struct {
	goroot  string
	fset    *token.FileSet
	info    *types.Info
	packs   map[string]*types.Package
	sizes   types.Sizes
	decls   map[types.Object]ast.Node // of functions, and of variables at the package level
	methods map[string][]types.Object // those of the module, by name: what a call through an interface can reach
}

// load returns the program with all packages of the module, and some others.
func load(t *testing.T, others ...string) *program {
	t.Helper()
	p := &program{
		goroot: build.Default.GOROOT, fset: token.NewFileSet(), sizes: types.SizesFor("gc", build.Default.GOARCH),
		info:  &types.Info{Types: map[ast.Expr]types.TypeAndValue{}, Uses: map[*ast.Ident]types.Object{}, Defs: map[*ast.Ident]types.Object{}},
		packs: map[string]*types.Package{"unsafe": types.Unsafe}, decls: map[types.Object]ast.Node{}, methods: map[string][]types.Object{},
	}
	if p.goroot == "" {
		out, err := exec.Command("go", "env", "GOROOT").Output()
		if err != nil {
			t.Fatal(err)
		}
		p.goroot = strings.TrimSpace(string(out))
	}
	for _, path := range append(layers(t), others...) {
		if _, err := p.Import(path); err != nil {
			t.Fatal(path, err)
		}
	}
	return p
}

// layers returns the paths of the packages of the module, the tests of other folders left out.
func layers(t *testing.T) []string {
	t.Helper()
	var paths []string
	dirs, err := os.ReadDir(root)
	if err != nil {
		t.Fatal(err)
	}
	for _, d := range dirs {
		files, err := filepath.Glob(filepath.Join(root, d.Name(), "*.go"))
		if err != nil {
			t.Fatal(err)
		}
		if slices.ContainsFunc(files, func(f string) bool { return !strings.HasSuffix(f, "_test.go") }) {
			paths = append(paths, module+"/"+d.Name())
		}
	}
	return paths
}

// Import reads the package of a path, if this has not been done, and checks its types.
func (p *program) Import(path string) (*types.Package, error) {
	if pack := p.packs[path]; pack != nil {
		return pack, nil
	}
	dir := filepath.Join(p.goroot, "src", path)
	within, ours := strings.CutPrefix(path, module+"/")
	if ours {
		dir = filepath.Join(root, within)
	}
	context := build.Default
	context.CgoEnabled = false
	pack, err := context.ImportDir(dir, 0)
	if err != nil {
		return nil, err
	}
	var files []*ast.File
	for _, name := range pack.GoFiles {
		f, err := parser.ParseFile(p.fset, filepath.Join(dir, name), nil, 0)
		if err != nil {
			return nil, err
		}
		files = append(files, f)
	}
	// Package runtime stands behind the language itself: which of its tables are read is not said by calls.
	c := types.Config{Importer: p, Sizes: p.sizes, IgnoreFuncBodies: strings.HasPrefix(path, "runtime") || strings.HasPrefix(path, "internal/runtime")}
	p.packs[path], err = c.Check(path, p.fset, files, p.info)
	for _, f := range files {
		p.declare(f, ours)
	}
	return p.packs[path], err
}

// declare notes where the functions and the variables of a file are declared.
func (p *program) declare(f *ast.File, ours bool) {
	for _, d := range f.Decls {
		switch d := d.(type) {
		case *ast.FuncDecl:
			o := p.info.Defs[d.Name]
			p.decls[o] = d
			if ours && d.Recv != nil {
				p.methods[d.Name.Name] = append(p.methods[d.Name.Name], o)
			}
		case *ast.GenDecl:
			for _, s := range d.Specs {
				if v, ok := s.(*ast.ValueSpec); ok && d.Tok == token.VAR {
					for _, name := range v.Names {
						p.decls[p.info.Defs[name]] = v
					}
				}
			}
		}
	}
}

// reached returns the variables at the package level that a call of a function reaches.
func (p *program) reached(from types.Object) []*types.Var {
	var found []*types.Var
	seen := map[types.Object]bool{}
	work := []types.Object{from}
	for len(work) > 0 {
		o := work[0]
		work = work[1:]
		if f, ok := o.(*types.Func); ok {
			o = f.Origin()
		}
		if seen[o] {
			continue
		}
		seen[o] = true
		if f, ok := o.(*types.Func); ok && f.Signature().Recv() != nil && types.IsInterface(f.Signature().Recv().Type()) {
			work = append(work, p.methods[o.Name()]...)
		}
		n := p.decls[o]
		if n == nil {
			continue
		}
		if v, ok := o.(*types.Var); ok {
			found = append(found, v)
		}
		ast.Inspect(n, func(n ast.Node) bool {
			if id, ok := n.(*ast.Ident); ok && p.info.Uses[id] != nil {
				work = append(work, p.info.Uses[id])
			}
			return true
		})
	}
	return found
}

// size returns how much a variable at the package level holds; 1 is what a table can hold.
func (p *program) size(v *types.Var) float64 {
	spec := p.decls[v].(*ast.ValueSpec)
	for i, name := range spec.Names {
		if p.info.Defs[name] == v && i < len(spec.Values) {
			return p.sizeOf(v.Type(), spec.Values[i])
		}
	}
	return p.sizeOf(v.Type(), nil)
}

// sizeOf returns how much a value of a type holds, which is zero if it is not written out.
func (p *program) sizeOf(t types.Type, value ast.Expr) float64 {
	if pair, ok := value.(*ast.KeyValueExpr); ok {
		value = pair.Value
	}
	literal, _ := value.(*ast.CompositeLit)
	switch u := t.Underlying().(type) {
	case *types.Basic:
		return p.sizeOfBasic(u, value)
	case *types.Array:
		return p.sizeOfElements(u.Elem(), literal, int(u.Len()))
	case *types.Slice:
		return p.sizeOfElements(u.Elem(), literal, 0)
	case *types.Map:
		return p.sizeOfElements(u.Elem(), literal, 0)
	case *types.Struct:
		all := 0.0
		for i := range u.NumFields() {
			all += p.sizeOf(u.Field(i).Type(), fieldOf(literal, u.Field(i).Name(), i))
		}
		return max(all, 1.0/smallRows)
	}
	return 1.0 / smallRows
}

// sizeOfBasic returns how much a number, a bool or a string holds.
func (p *program) sizeOfBasic(b *types.Basic, value ast.Expr) float64 {
	if b.Info()&types.IsString != 0 {
		bytes := 0
		if v := p.info.Types[value].Value; v != nil {
			bytes = len(constant.StringVal(v))
		}
		return max(1, float64(bytes)/shortString) / shortStrings
	}
	switch p.sizes.Sizeof(b) {
	case 1, 2:
		return 1.0 / smallNumbers
	case 4:
		return 1.0 / words32
	}
	return 1.0 / words64
}

// sizeOfElements returns how much the elements of a literal hold, and those that it leaves out, up to a length.
func (p *program) sizeOfElements(t types.Type, literal *ast.CompositeLit, length int) float64 {
	all, n := 0.0, 0
	if literal != nil {
		n = len(literal.Elts)
		for _, e := range literal.Elts {
			all += p.sizeOf(t, e)
		}
	}
	return all + float64(max(0, length-n))*p.sizeOf(t, nil)
}

// fieldOf returns the value of a field in the literal of a struct, or nil.
func fieldOf(literal *ast.CompositeLit, name string, i int) ast.Expr {
	if literal == nil {
		return nil
	}
	for k, e := range literal.Elts {
		pair, ok := e.(*ast.KeyValueExpr)
		if !ok && k == i {
			return e
		}
		if ok {
			if id, ok := pair.Key.(*ast.Ident); ok && id.Name == name {
				return pair.Value
			}
		}
	}
	return nil
}

// sum returns how much all the tables hold that a call of a function reaches, and what they are.
func (p *program) sum(from types.Object) (float64, string) {
	all, names := 0.0, []string{}
	for _, v := range p.reached(from) {
		size := p.size(v)
		all += size
		names = append(names, v.Pkg().Path()+"."+v.Name()+" "+strconv.FormatFloat(size, 'f', 2, 64))
	}
	slices.Sort(names)
	return all, strings.Join(names, ", ")
}

// exported returns the functions and methods that a package gives out, by their names.
func (p *program) exported(path string) map[string]types.Object {
	found := map[string]types.Object{}
	for o := range p.decls {
		if f, ok := o.(*types.Func); ok && f.Exported() && f.Pkg().Path() == path {
			found[f.FullName()] = f
		}
	}
	return found
}

// Rule 3a: all the tables that one call reaches hold at most twice what a table can hold.
func TestReached(t *testing.T) {
	p := load(t)
	for _, path := range layers(t) {
		funcs := p.exported(path)
		for _, name := range slices.Sorted(maps.Keys(funcs)) {
			all, names := p.sum(funcs[name])
			t.Logf("%s: %.2f: %s", name, all, names)
			if all > most {
				t.Errorf("%s reaches tables that hold %.2f of what one can hold, more than %d: %s", name, all, most, names)
			}
		}
	}
}

// Rule 3a: no table holds more than it can.
func TestTables(t *testing.T) {
	p := load(t)
	for o := range p.decls {
		if v, ok := o.(*types.Var); ok && strings.HasPrefix(v.Pkg().Path(), module+"/") && p.size(v) > 1 {
			t.Errorf("%s.%s holds %.2f of what a table can hold", v.Pkg().Path(), v.Name(), p.size(v))
		}
	}
}

// The tests above see what they look for: tables of the standard library, and how much these hold.
func TestSeen(t *testing.T) {
	p := load(t, "strings", "strconv")
	for name, want := range map[string][]string{
		"strings.EqualFold": {"unicode.caseOrbit 1.", "unicode.asciiFold 0.51", "unicode/utf8.first 1.02"},
		"strings.ToUpper":   {"unicode._CaseRanges 8."},
		"strconv.Itoa":      {"math/bits.deBruijn64tab 0.26", "internal/strconv.uint64pow10 0.13"},
		"strings.HasPrefix": nil,
	} {
		path, last, _ := strings.Cut(name, ".")
		all, names := p.sum(p.packs[path].Scope().Lookup(last))
		for _, s := range want {
			if !strings.Contains(names, s) {
				t.Errorf("%s: %.2f: %s, want %s", name, all, names, s)
			}
		}
		if (all > 0) != (want != nil) {
			t.Errorf("%s: %.2f: %s", name, all, names)
		}
	}
}
