package tests

import (
	"math"
	"regexp"
	"slices"
	"strconv"
	"strings"
	"testing"

	"loop.example/shieling/impl"
)

type op = impl.Op

// plainOps is one of each kind, with its line.
var plainOps = []struct {
	op   op
	line string
}{
	{op{Kind: impl.OpFile, Id: 5, Dir: 9, Name: "a"}, "file 5 9 a"},
	{op{Kind: impl.OpDir, Id: 12, Dir: 3, Name: "ab"}, "dir 12 3 ab"},
	{op{Kind: impl.OpGone, Id: 7, Dir: 10, Name: "abc"}, "gone 7 10 abc"},
	{op{Kind: impl.OpMove, Id: 4, Dir: 2, Name: "a", Dir2: 30, Name2: "zyxw"}, "move 4 2 a 30 zyxw"},
	{op{Kind: impl.OpText, Id: 8, Text: "a1"}, "text 8 =a1"},
}

// lineForm is the table of chapter 2, told another way.
var lineForm = func() *regexp.Regexp {
	id := `([1-9]|[12][0-9]|3[01])`
	dir := `(0|` + id + `)`
	name := `[a-z]{1,4}`
	return regexp.MustCompile(`\A(` +
		`(file|dir|gone) ` + id + ` ` + dir + ` ` + name +
		`|move ` + id + ` ` + dir + ` ` + name + ` ` + dir + ` ` + name +
		`|text ` + id + ` =[a-z0-9]{0,12})\z`)
}()

// wantOp asks for promise 2 of something that is ok.
func wantOp(t *testing.T, x op, line string) {
	t.Helper()
	if !impl.OpOk(x) {
		t.Errorf("%v: not ok", x)
	}
	if got := impl.OpLine(x); got != line {
		t.Errorf("%v: the line %q, not %q", x, got, line)
	}
	if got, ok := impl.OpRead(line); !ok || got != x {
		t.Errorf("%q is read as %v, %v, not %v", line, got, ok, x)
	}
}

func wantNoOp(t *testing.T, x op) {
	t.Helper()
	if impl.OpOk(x) {
		t.Errorf("%v: ok", x)
	}
	if got := impl.OpLine(x); got != "none" {
		t.Errorf("%v: the line %q", x, got)
	}
	if got := impl.OpIds(x); len(got) != 0 {
		t.Errorf("%v: the numbers %v", x, got)
	}
}

func wantNoLine(t *testing.T, line string) {
	t.Helper()
	if got, ok := impl.OpRead(line); ok || got != (op{}) {
		t.Errorf("%q is read as %v, %v", line, got, ok)
	}
}

func TestOpKindsAreAsTheDocumentNumbersThem(t *testing.T) {
	kinds := []int{impl.OpFile, impl.OpDir, impl.OpGone, impl.OpMove, impl.OpText}
	if !slices.Equal(kinds, []int{1, 2, 3, 4, 5}) {
		t.Error(kinds)
	}
}

func TestOpEachKindIsReadAsItWas(t *testing.T) {
	for _, x := range plainOps {
		wantOp(t, x.op, x.line)
	}
}

func TestOpAllNumbers(t *testing.T) {
	for _, x := range plainOps {
		for id := -3; id < 40; id++ {
			y := x.op
			y.Id = id
			wantOpOrNot(t, y, 1 <= id && id <= 31)
			if y.Kind == impl.OpText {
				continue
			}
			y = x.op
			y.Dir = id
			wantOpOrNot(t, y, 0 <= id && id <= 31)
			if y.Kind == impl.OpMove {
				y = x.op
				y.Dir2 = id
				wantOpOrNot(t, y, 0 <= id && id <= 31)
			}
		}
	}
}

// wantOpOrNot writes the line by itself.
func wantOpOrNot(t *testing.T, x op, ok bool) {
	t.Helper()
	if !ok {
		wantNoOp(t, x)
		wantNoLine(t, lineOf(x))
		return
	}
	wantOp(t, x, lineOf(x))
}

func lineOf(x op) string {
	words := []string{"", "file", "dir", "gone", "move", "text"}
	line := words[x.Kind] + " " + strconv.Itoa(x.Id)
	if x.Kind == impl.OpText {
		return line + " =" + x.Text
	}
	line += " " + strconv.Itoa(x.Dir) + " " + x.Name
	if x.Kind == impl.OpMove {
		line += " " + strconv.Itoa(x.Dir2) + " " + x.Name2
	}
	return line
}

func TestOpNamesAndTexts(t *testing.T) {
	names := map[string]bool{
		"a": true, "z": true, "abcd": true, "zzzz": true,
		"": false, "abcde": false, "A": false, "a1": false, "1": false, "é": false, "\xff": false,
		"a\x00": false, "a\n": false, "none": true, "file": true, "=": false, strings.Repeat("a", 1<<20): false,
	}
	texts := map[string]bool{
		"": true, "a": true, "0": true, "007": true, "abcdef012345": true, "zzzzzzzzzzzz": true,
		"abcdef0123456": false, "A": false, "=": false, "=a": false, "a=": false, "é": false, "\xff": false,
		"a\n": false, "-1": false, strings.Repeat("a", 1<<20): false,
	}
	for _, x := range plainOps {
		if x.op.Kind == impl.OpText {
			for text, ok := range texts {
				y := x.op
				y.Text = text
				wantOpOrNot(t, y, ok)
			}
			continue
		}
		for name, ok := range names {
			y := x.op
			y.Name = name
			wantOpOrNot(t, y, ok)
			if y.Kind == impl.OpMove {
				y = x.op
				y.Name2 = name
				wantOpOrNot(t, y, ok)
			}
		}
	}
}

func TestOpEmptyText(t *testing.T) {
	wantOp(t, op{Kind: impl.OpText, Id: 1}, "text 1 =")
	wantOp(t, op{Kind: impl.OpText, Id: 31}, "text 31 =")
	wantNoLine(t, "text 1 ")
	wantNoLine(t, "text 1")
	wantNoLine(t, "text 1 = ")
	wantNoLine(t, "text 1=")
	wantNoLine(t, "text 1  =")
}

func TestOpKindsThatAreNone(t *testing.T) {
	for _, kind := range []int{math.MinInt, -1, 0, 6, 7, 256 + 1, 1 << 32, 1<<32 + 5, math.MaxInt} {
		for _, x := range plainOps {
			y := x.op
			y.Kind = kind
			wantNoOp(t, y)
		}
		wantNoOp(t, op{Kind: kind})
		wantNoOp(t, op{Kind: kind, Id: 1})
	}
	wantNoOp(t, op{})
}

func TestOpPartsThatItsKindHasNot(t *testing.T) {
	const place, second, text = 1, 2, 4
	has := map[int]int{
		impl.OpFile: place, impl.OpDir: place, impl.OpGone: place,
		impl.OpMove: place | second, impl.OpText: text,
	}
	parts := []struct {
		of     int
		change func(x *op)
	}{
		{place, func(x *op) { x.Dir = 1 }},
		{place, func(x *op) { x.Dir = -1 }},
		{place, func(x *op) { x.Name = "a" }},
		{place, func(x *op) { x.Dir, x.Name = 1, "a" }},
		{second, func(x *op) { x.Dir2 = 1 }},
		{second, func(x *op) { x.Dir2 = -1 }},
		{second, func(x *op) { x.Name2 = "a" }},
		{second, func(x *op) { x.Dir2, x.Name2 = 1, "a" }},
		{text, func(x *op) { x.Text = "a" }},
		{text, func(x *op) { x.Text = "A" }},
	}
	for _, x := range plainOps {
		for _, part := range parts {
			if has[x.op.Kind]&part.of == 0 {
				y := x.op
				part.change(&y)
				wantNoOp(t, y)
			}
		}
	}
}

func TestOpPartsThatItLacks(t *testing.T) {
	for _, x := range plainOps {
		lacks := map[string]func(y *op){
			"an object": func(y *op) { y.Id = 0 },
			"a name":    func(y *op) { y.Name = "" },
			"a name2":   func(y *op) { y.Name2 = "" },
		}
		for _, change := range lacks {
			y := x.op
			change(&y)
			if y != x.op {
				wantNoOp(t, y)
			}
		}
	}
}

func TestOpLinesThatAreNone(t *testing.T) {
	lines := []string{
		"", " ", "none", "file", "file ", "file 1", "file 1 0", "file 1 0 ", "file 1 a", "file 1 0 a b", "file 1 0 a 0 b",
		"move 1 0 a", "move 1 0 a 2", "move 1 0 a 2 ", "move 1 0 a 2 b c", "text", "text =a", "text 1 a", "text 1 =a b", "text 1 ==a", "text 1 0 =a",
		"File 1 0 a", "files 1 0 a", "fil 1 0 a", "1 1 0 a", "moved 1 0 a 2 b", "0 file 1 0 a", "file file 1 0 a", "none 1 0 a",
		"file 01 0 a", "file 1 00 a", "file +1 0 a", "file 1 +0 a", "file -1 0 a", "file 1 -0 a", "file 1_0 0 a", "file 0x1 0 a", "file 1.0 0 a", "file 1e0 0 a",
		"move 1 0 a 02 b", "move 1 0 a +2 b", "move 01 0 a 2 b", "text 01 =a", "text +1 =a",
		"file  1 0 a", "file 1  0 a", "file 1 0  a", " file 1 0 a", "file 1 0 a ", "file 1 0 a\n", "\nfile 1 0 a", "file 1 0\na", "file\t1 0 a", "file 1 0 a\x00", "file 1 0 a\r\n",
		"file 1 0 a,", "file 1 0 =a", "file 1 0 a =", "gone 1", "gone 1 =a", "dir 1 0 a\ndir 2 0 b", "file １ 0 a", "\ufefffile 1 0 a", "file\u00a01 0 a",
		"file 18446744073709551617 0 a", "file 1 4294967296 a", "file 99999999999999999999999999 0 a",
		strings.Repeat(" ", 1<<20), strings.Repeat("file 1 0 a ", 1<<16), "text 1 =" + strings.Repeat("a", 1<<20), "file " + strings.Repeat("0", 1<<20) + "1 0 a",
	}
	for _, line := range lines {
		wantNoLine(t, line)
	}
}

// Each line with a byte gone, another one in its place, or one more.
func TestOpLinesThatAreNearlyOnes(t *testing.T) {
	const signs = " 0123=-+_azA\n\t\x00\xff/,."
	for _, x := range plainOps {
		for at := 0; at <= len(x.line); at++ {
			for i := range len(signs) {
				sign := signs[i : i+1]
				wantAsFormed(t, x.line[:at]+sign+x.line[at:])
				if at < len(x.line) {
					wantAsFormed(t, x.line[:at]+sign+x.line[at+1:])
				}
			}
			if at < len(x.line) {
				wantAsFormed(t, x.line[:at]+x.line[at+1:])
			}
			wantAsFormed(t, x.line[:at])
			wantAsFormed(t, x.line[at:])
		}
	}
}

// wantAsFormed asks that a text is read just if it has a line's form, and is written as it was.
func wantAsFormed(t *testing.T, line string) {
	t.Helper()
	x, ok := impl.OpRead(line)
	if ok != lineForm.MatchString(line) {
		t.Errorf("%q is read: %v", line, ok)
	}
	if ok && (!impl.OpOk(x) || impl.OpLine(x) != line) {
		t.Errorf("%q is read as %v", line, x)
	}
	if !ok && x != (op{}) {
		t.Errorf("%q is none, but read as %v", line, x)
	}
}

func TestOpIds(t *testing.T) {
	wants := map[string][]int{
		"file 5 9 a":        {5, 9},
		"file 9 5 a":        {5, 9},
		"file 5 0 a":        {0, 5},
		"file 5 5 a":        {5},
		"dir 31 0 a":        {0, 31},
		"dir 1 31 a":        {1, 31},
		"gone 1 31 a":       {1, 31},
		"gone 31 1 a":       {1, 31},
		"gone 6 6 a":        {6},
		"move 9 3 a 5 b":    {3, 5, 9},
		"move 9 5 a 3 b":    {3, 5, 9},
		"move 1 3 a 5 b":    {1, 3, 5},
		"move 4 5 a 3 b":    {3, 4, 5},
		"move 9 3 a 3 b":    {3, 9},
		"move 1 3 a 3 b":    {1, 3},
		"move 1 0 a 0 b":    {0, 1},
		"move 1 0 a 31 b":   {0, 1, 31},
		"move 3 3 a 5 b":    {3, 5},
		"move 5 3 a 5 b":    {3, 5},
		"move 7 7 a 7 a":    {7},
		"move 31 31 a 31 b": {31},
		"text 1 =a":         {1},
		"text 31 =":         {31},
	}
	for line, want := range wants {
		x, _ := impl.OpRead(line)
		if got := impl.OpIds(x); !slices.Equal(got, want) {
			t.Errorf("%q names %v, not %v", line, got, want)
		}
	}
}

// The numbers of all moves, by sorting.
func TestOpIdsOfAllMoves(t *testing.T) {
	for id := 1; id < impl.TreeMax; id++ {
		for dir := range impl.TreeMax {
			for dir2 := range impl.TreeMax {
				want := []int{id, dir, dir2}
				slices.Sort(want)
				want = slices.Compact(want)
				x := op{Kind: impl.OpMove, Id: id, Dir: dir, Name: "a", Dir2: dir2, Name2: "b"}
				if got := impl.OpIds(x); !slices.Equal(got, want) {
					t.Fatalf("%v names %v", x, got)
				}
			}
		}
	}
}

func TestOpIdsIsNewMemory(t *testing.T) {
	x := plainOps[3].op
	first := impl.OpIds(x)
	for i := range first[:cap(first)] {
		first[:cap(first)][i] = -7
	}
	if got := impl.OpIds(x); !slices.Equal(got, []int{2, 4, 30}) {
		t.Error(got)
	}
}

func TestOpSame(t *testing.T) {
	var all []op
	for _, x := range plainOps {
		all = append(all, x.op)
	}
	if !impl.OpSame(all, slices.Clone(all)) || !impl.OpSame(nil, nil) || !impl.OpSame(nil, []op{}) || !impl.OpSame([]op{}, nil) {
		t.Error("a list and itself")
	}
	turned := slices.Clone(all)
	slices.Reverse(turned)
	swapped := slices.Clone(all)
	swapped[1], swapped[2] = swapped[2], swapped[1]
	others := [][]op{nil, {}, all[:4], all[1:], append(slices.Clone(all), op{}), append(slices.Clone(all), all[4]), turned, swapped}
	for _, other := range others {
		if impl.OpSame(all, other) || impl.OpSame(other, all) {
			t.Errorf("%v is told as %v", other, all)
		}
	}
	if impl.OpSame([]op{{}}, nil) || impl.OpSame([]op{{}}, []op{{}, {}}) {
		t.Error("lists of nothing, of other sizes")
	}
	if wrong := []op{{Kind: 9, Id: -1, Text: "A"}}; !impl.OpSame(wrong, slices.Clone(wrong)) {
		t.Error("what is not ok is as it is")
	}
}

func TestOpSameAsksForAllParts(t *testing.T) {
	changes := []func(x *op){
		func(x *op) { x.Kind++ }, func(x *op) { x.Dir++ }, func(x *op) { x.Name += "a" },
		func(x *op) { x.Dir2++ }, func(x *op) { x.Name2 += "a" }, func(x *op) { x.Id++ }, func(x *op) { x.Text += "a" },
	}
	for _, x := range plainOps {
		for part, change := range changes {
			y := x.op
			change(&y)
			if impl.OpSame([]op{x.op}, []op{y}) || impl.OpSame([]op{x.op, x.op}, []op{x.op, y}) {
				t.Errorf("%v is told as %v (part %d)", y, x.op, part)
			}
		}
	}
}
