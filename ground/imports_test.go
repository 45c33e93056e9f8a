package ground

import (
	"go/parser"
	"go/token"
	"os"
	"path/filepath"
	"slices"
	"strconv"
	"strings"
	"testing"
)

// library is what a package of the program may take from Go's library.
const library = "bytes cmp container/heap errors iter maps math math/bits slices sort strconv strings sync sync/atomic unicode unicode/utf8"

// layers is the document's map: which packages each layer calls beside api.
func layers() map[string]string {
	return map[string]string{
		"api":     "",
		"num":     "",
		"runes":   "",
		"arr":     "",
		"atomic":  "arr num",
		"layout":  "arr",
		"pick":    "arr",
		"seek":    "arr",
		"fold":    "arr atomic num",
		"meter":   "",
		"core":    "arr",
		"run":     "arr atomic core fold layout meter pick seek",
		"alex":    "arr runes",
		"jlex":    "arr runes",
		"klex":    "arr runes",
		"grammar": "core",
		"spell":   "core runes",
		"apl":     "alex core grammar spell",
		"jay":     "core grammar jlex spell",
		"kay":     "core grammar klex spell",
		"aeval":   "apl arr atomic fold layout meter pick seek",
		"jeval":   "arr atomic fold jay layout meter pick seek",
		"keval":   "arr atomic fold kay layout meter pick seek",
		"lower":   "apl arr core jay kay",
		"frag":    "core",
		"raise":   "apl arr frag jay kay",
		"tri":     "aeval apl jay jeval kay keval lower raise",
		"show":    "arr runes spell",
		"session": "arr show tri",
	}
}

// TestImports: each layer imports Go's few packages, api, the layers that the map names, and the program's own helpers.
func TestImports(t *testing.T) {
	for layer, calls := range layers() {
		files, err := filepath.Glob(filepath.Join("..", layer, "*.go"))
		if err != nil || len(files) == 0 {
			t.Errorf("%s: no files (%v)", layer, err)
		}
		for _, file := range files {
			if !strings.HasSuffix(file, "_test.go") {
				checkImports(t, file, strings.Fields(calls))
			}
		}
	}
}

func checkImports(t *testing.T, file string, calls []string) {
	tree, err := parser.ParseFile(token.NewFileSet(), file, nil, parser.ImportsOnly)
	if err != nil {
		t.Fatal(err)
	}
	for _, spec := range tree.Imports {
		path, err := strconv.Unquote(spec.Path.Value)
		if err != nil {
			t.Fatal(err)
		}
		if !mayImport(path, calls) {
			t.Errorf("%s imports %s", file, path)
		}
	}
}

func mayImport(path string, calls []string) bool {
	own, ours := strings.CutPrefix(path, "triglyph/")
	if !ours {
		return slices.Contains(strings.Fields(library), path)
	}
	_, layer := layers()[own]
	return own == "api" || !layer || slices.Contains(calls, own)
}

// TestModule: the module's name, and the language's version.
func TestModule(t *testing.T) {
	text, err := os.ReadFile("../go.mod")
	if err != nil {
		t.Fatal(err)
	}
	if got := strings.Join(strings.Fields(string(text)), " "); got != "module triglyph go 1.27" {
		t.Errorf("go.mod: %s", got)
	}
}
