package lexeme_test

import (
	"regexp"
	"slices"
	"strings"
	"testing"

	"analemma/api"
	"analemma/lexeme"
)

const (
	maxText = 1 << 23
	maxLine = 300
)

func checkLines(t *testing.T, text string, want []string, number int, code api.Errno) {
	t.Helper()
	lines, n, e := lexeme.Lines(text)
	if !slices.Equal(lines, want) || n != number || e != code {
		t.Errorf("Lines(%.40q of %d bytes) = %.40q of %d lines, %d, %v; want %.40q of %d lines, %d, %v", text, len(text), lines, len(lines), n, e, want, len(want), number, code)
	}
}

func checkFields(t *testing.T, line string, want []string, code api.Errno) {
	t.Helper()
	if fields, e := lexeme.Fields(line); !slices.Equal(fields, want) || e != code {
		t.Errorf("Fields(%q) = %q, %v; want %q, %v", line, fields, e, want, code)
	}
}

func checkJoin(t *testing.T, fields []string, want string, code api.Errno) {
	t.Helper()
	if line, e := lexeme.Join(fields); line != want || e != code {
		t.Errorf("Join(%.40q of %d fields) = %q, %v; want %q, %v", fields, len(fields), line, e, want, code)
	}
}

// each calls f with all strings of at most n of some bytes.
func each(bytes string, n int, f func(s string)) {
	var grow func(s string, more int)
	grow = func(s string, more int) {
		f(s)
		if more > 0 {
			for i := range len(bytes) {
				grow(s+bytes[i:i+1], more-1)
			}
		}
	}
	grow("", n)
}

// P5.1: ordinary texts, and those of the examples.
func TestLines(t *testing.T) {
	for _, x := range []struct {
		text string
		want []string
	}{
		{"a\nb\n", []string{"a", "b"}},
		{"a\n\n", []string{"a", ""}},
		{"", []string{""}},
		{"\n", []string{""}},
		{"\n\n", []string{"", ""}},
		{"a", []string{"a"}},
		{"a\n", []string{"a"}},
		{"a\nb", []string{"a", "b"}},
		{"\na", []string{"", "a"}},
		{"\n\na\n\n\nb", []string{"", "", "a", "", "", "b"}},
		{"Rule  X 1\t# y\nZone \"a b\"\n", []string{"Rule  X 1\t# y", "Zone \"a b\""}},
		{"a\r\nb\rc\vd\fe\x00f\u0085g\u2028h\n", []string{"a\r", "b\rc\vd\fe\x00f\u0085g\u2028h"}},
		{"\xff\xfe\n\x80", []string{"\xff\xfe", "\x80"}},
		{" \n\t\n \t ", []string{" ", "\t", " \t "}},
		{"# a \"b\n\"c\n", []string{"# a \"b", "\"c"}},
	} {
		checkLines(t, x.text, x.want, 0, api.OK)
	}
}

// P5.1, P5.5: all texts of few bytes have the lines that are defined, which are the text again.
func TestLinesAll(t *testing.T) {
	each("\n\ra", 9, func(text string) {
		checkLines(t, text, defined(text), 0, api.OK)
		checkText(t, text)
	})
}

// defined restates the lines of a text byte by byte.
func defined(text string) []string {
	lines := []string{""}
	for i := range len(text) {
		if text[i] != '\n' {
			lines[len(lines)-1] += text[i : i+1]
		} else if i+1 < len(text) {
			lines = append(lines, "")
		}
	}
	return lines
}

// checkText checks that a text without an error has right lines, and is made of them again.
func checkText(t *testing.T, text string) {
	t.Helper()
	lines, _, e := lexeme.Lines(text)
	if e != api.OK {
		t.Errorf("Lines of %d bytes: %v", len(text), e)
	}
	for i, line := range lines {
		if len(line) > maxLine || strings.Contains(line, "\n") {
			t.Errorf("line %d of %d bytes: %q", i+1, len(text), line)
		}
	}
	if again := strings.Join(lines, "\n"); again != text && again+"\n" != text {
		t.Errorf("lines of %.40q of %d bytes are not the text again", text, len(text))
	}
}

// P5.1: lines at the limit and beyond it; the first of the long ones counts.
func TestLinesLong(t *testing.T) {
	most, long := strings.Repeat("x", maxLine), strings.Repeat("x", maxLine+1)
	for _, x := range []struct {
		text   string
		number int
	}{
		{most, 0}, {most + "\n", 0}, {most + "\n" + most, 0}, {"a\n" + most + "\n\n", 0}, {"\n" + strings.Repeat(most+"\n", 100), 0},
		{long, 1}, {long + "\n", 1}, {long + "\na\n", 1}, {"a\n" + long, 2}, {"a\n" + long + "\n", 2}, {"\n\n" + long + "\n\n", 3},
		{long + "\n" + long, 1}, {most + "\n" + long + "\n" + long + "\n", 2}, {strings.Repeat(most+"\n", 1000) + long, 1001},
		{strings.Repeat("x", maxText), 1}, {strings.Repeat("\n", 1000) + strings.Repeat("#", 1000), 1001},
		{strings.Repeat(" ", maxLine) + "\n" + strings.Repeat("\r", maxLine+1), 2},
		{strings.Repeat("\u00e9", maxLine/2), 0}, {strings.Repeat("\u00e9", maxLine/2) + "x", 1},
	} {
		if x.number == 0 {
			checkLines(t, x.text, defined(x.text), 0, api.OK)
			checkText(t, x.text)
		} else {
			checkLines(t, x.text, nil, x.number, api.ErrLong)
		}
	}
}

// P5.1: texts at the limit and beyond it; of a text that is too long it does not matter which line is.
func TestLinesMaxText(t *testing.T) {
	const width = 256
	full := strings.Repeat(strings.Repeat("x", width-1)+"\n", maxText/width)
	if lines, n, e := lexeme.Lines(full); len(lines) != maxText/width || n != 0 || e != api.OK {
		t.Errorf("%d lines, %d, %v of a text of %d bytes", len(lines), n, e, len(full))
	}
	checkText(t, full)
	for _, more := range []string{"\n", "x", "x\n", strings.Repeat("x", 1000)} {
		checkLines(t, full+more, nil, 1, api.ErrLong)
	}
	checkLines(t, full[:maxText-1]+"y", append(slices.Repeat([]string{full[:width-1]}, maxText/width-1), full[:width-1]+"y"), 0, api.OK)
	checkLines(t, full[:len(full)-maxLine-1]+strings.Repeat("x", maxLine+1), nil, maxText/width-1, api.ErrLong)

	feeds := strings.Repeat("\n", maxText)
	if lines, n, e := lexeme.Lines(feeds); len(lines) != maxText || n != 0 || e != api.OK {
		t.Errorf("%d lines, %d, %v of %d line feeds", len(lines), n, e, maxText)
	}
	if lines, n, e := lexeme.Lines(feeds[1:] + "a"); len(lines) != maxText || lines[maxText-1] != "a" || n != 0 || e != api.OK {
		t.Errorf("%d lines, %d, %v of %d line feeds and a byte", len(lines), n, e, maxText-1)
	}
	checkLines(t, feeds+"\n", nil, 1, api.ErrLong)
}

// P5.2: ordinary lines, and those of the examples.
func TestFields(t *testing.T) {
	for _, x := range []struct {
		line string
		want []string
	}{
		{"Rule  X 1 # y", []string{"Rule", "X", "1"}},
		{`"a b"c ""`, []string{"a bc", ""}},
		{"  # x", nil},
		{"a#\x07", []string{"a"}},
		{"", nil},
		{" ", nil},
		{" \t\t ", nil},
		{"#", nil},
		{"#\"", nil},
		{"a", []string{"a"}},
		{"\ta\t\tb \tc\t", []string{"a", "b", "c"}},
		{`a"b c"d`, []string{"ab cd"}},
		{`""`, []string{""}},
		{`""""`, []string{""}},
		{`"" ""`, []string{"", ""}},
		{`""a`, []string{"a"}},
		{`a""`, []string{"a"}},
		{`"a""b"`, []string{"ab"}},
		{`"a"b"c d"e`, []string{"abc de"}},
		{`"#"`, []string{"#"}},
		{`"a # b" c#d e`, []string{"a # b", "c"}},
		{`""#`, []string{""}},
		{`"a"#"b`, []string{"a"}},
		{`a # b # c "`, []string{"a"}},
		{`'a b' \"c\"`, []string{"'a", "b'", `\c\`}},
		{`!$%&()*+,-./09:;<=>?@AZ[\]^_az{|}~`, []string{`!$%&()*+,-./09:;<=>?@AZ[\]^_az{|}~`}},
		{`" !#$'~"`, []string{" !#$'~"}},
		{"Zone Europe/Dublin -0:25:21 - LMT 1880 Aug  2", []string{"Zone", "Europe/Dublin", "-0:25:21", "-", "LMT", "1880", "Aug", "2"}},
		{"a#\n", []string{"a"}},
		{"a #\nb", []string{"a"}},
		{"#\x00\xff\u00e9\t\r", nil},
	} {
		checkFields(t, x.line, x.want, api.OK)
	}
}

// P5.2: lines that are wrong.
func TestFieldsForm(t *testing.T) {
	for _, line := range []string{
		`a "b`, "a\x07", `"`, `"""`, `a"`, `""a"`, `"a" "b`, `"a#`, `"a # b`, `a "b # c" "`, `a"#b`,
		"\"a\tb\"", "\"\t\"", "\t\"\t", "a\n", "\n", "a\nb", "\na", "\"\n\"", "a\n#", "a\r", "a \r", "\r\n", "\r# a",
		"\x00", "a\x00b", "\x1f", "\x7f", "\x80", "\xff", "a \x7f# b", "\"\x7f\"", "\"\x1f\"", "\"\x80\"", "a\u00a0b", "caf\u00e9", "\"\u00e9\"", "\u2002", "\v", "\f", "a\vb",
		"a b c \x07 d # e", "\x07 \"", "\"a\x07",
	} {
		checkFields(t, line, nil, api.ErrForm)
	}
}

// P5.2: each byte alone, inside of a field, between fields, in quotes, and in a comment.
func TestFieldsBytes(t *testing.T) {
	for b := range 256 {
		one := string([]byte{byte(b)})
		for _, line := range []string{
			one, "a" + one, one + "a", "a" + one + "b", "a " + one + " b", `"` + one, `"` + one + `"`, `a"b` + one + `c"d`, `"a"` + one + `"b"`,
			"#" + one, "a#" + one, "a # b" + one + "c", `"a" #` + one + `"`, `"#` + one + `"`, one + "#", one + one, one + `""` + one,
		} {
			checkSorted(t, line)
		}
	}
}

// P5.2: all lines of few bytes.
func TestFieldsAll(t *testing.T) {
	each(" \t#\"a~\x07\n", 6, func(line string) { checkSorted(t, line) })
	each(" #\"a", 9, func(line string) { checkSorted(t, line) })
}

// right and token restate the definitions: the lines that are not wrong, and a field or a comment.
var (
	right = regexp.MustCompile(`^(?:[ \t]|[!$-~]|"[ !#-~]*")*(?:#(?s:.*))?$`)
	token = regexp.MustCompile(`(?:[!$-~]|"[ !#-~]*")+|#(?s:.*)`)
)

func meant(line string) ([]string, api.Errno) {
	if !right.MatchString(line) {
		return nil, api.ErrForm
	}
	var fields []string
	for _, field := range token.FindAllString(line, -1) {
		if field[0] != '#' {
			fields = append(fields, strings.ReplaceAll(field, `"`, ""))
		}
	}
	return fields, api.OK
}

func checkSorted(t *testing.T, line string) {
	t.Helper()
	want, code := meant(line)
	checkFields(t, line, want, code)
}

// P5.2: lines at the limit and beyond it; a line that is too long may be wrong, too.
func TestFieldsLong(t *testing.T) {
	for _, x := range []struct{ first, more, last string }{
		{"", "x", ""}, {"", " ", ""}, {"", "\t", "x"}, {"a #", "b", ""}, {`"`, "x", `"`}, {`"`, " ", `" y`}, {"#", "\xff", ""}, {"", `"`, `"`},
	} {
		room := maxLine - len(x.first) - len(x.last)
		checkSorted(t, x.first+strings.Repeat(x.more, room-1)+x.last)
		checkSorted(t, x.first+strings.Repeat(x.more, room)+x.last)
		checkFields(t, x.first+strings.Repeat(x.more, room+1)+x.last, nil, api.ErrLong)
	}
	checkFields(t, strings.Repeat("x ", maxLine/2), slices.Repeat([]string{"x"}, maxLine/2), api.OK)
	for _, line := range []string{
		strings.Repeat("\x07", maxLine), strings.Repeat("x", maxLine-1) + `"`, strings.Repeat("x", maxLine-1) + "\n", `"` + strings.Repeat("x", maxLine-1),
	} {
		checkFields(t, line, nil, api.ErrForm)
		checkFields(t, line+"x", nil, api.ErrLong)
		checkFields(t, line+"#", nil, api.ErrLong)
	}
	checkFields(t, strings.Repeat("\n", 1<<20), nil, api.ErrLong)
}

// P5.3: ordinary fields, and those of the examples.
func TestJoin(t *testing.T) {
	for _, x := range []struct {
		fields []string
		want   string
	}{
		{[]string{"a", "b c", "", "x#"}, `a "b c" "" "x#"`},
		{nil, ""},
		{[]string{}, ""},
		{[]string{"a"}, "a"},
		{[]string{""}, `""`},
		{[]string{"", ""}, `"" ""`},
		{[]string{" "}, `" "`},
		{[]string{"#"}, `"#"`},
		{[]string{"#a", "a#", "a#b", " a", "a ", "a  b", "# #"}, `"#a" "a#" "a#b" " a" "a " "a  b" "# #"`},
		{[]string{"Zone", "Europe/Dublin", "0:00", "-", "GMT"}, "Zone Europe/Dublin 0:00 - GMT"},
		{[]string{`!$%&'()*+,-./09:;<=>?@AZ[\]^_az{|}~`}, `!$%&'()*+,-./09:;<=>?@AZ[\]^_az{|}~`},
		{[]string{"b", "a", "b"}, "b a b"},
	} {
		checkJoin(t, x.fields, x.want, api.OK)
	}
}

// P5.3: each byte in a field.
func TestJoinBytes(t *testing.T) {
	for b := range 256 {
		one := string([]byte{byte(b)})
		for _, field := range []string{one, one + "a", "a" + one, "a" + one + "b", " " + one, "#" + one} {
			fields := []string{"x", field, ""}
			switch {
			case b < 32 || b > 126 || b == '"':
				checkJoin(t, fields, "", api.ErrArg)
				checkJoin(t, []string{field}, "", api.ErrArg)
				checkJoin(t, []string{"", "a", field}, "", api.ErrArg)
			case strings.ContainsAny(field, " #"):
				checkJoin(t, fields, `x "`+field+`" ""`, api.OK)
			default:
				checkJoin(t, fields, "x "+field+` ""`, api.OK)
			}
		}
	}
	checkJoin(t, []string{"a\u00e9"}, "", api.ErrArg)
	checkJoin(t, []string{"a\nb"}, "", api.ErrArg)
}

// P5.3: lines at the limit and beyond it, with the quotes and the spaces counted; a wrong field comes ahead of a long line.
func TestJoinLong(t *testing.T) {
	x := func(n int) string { return strings.Repeat("x", n) }
	for _, most := range [][]string{
		{x(maxLine)}, {x(maxLine - 2), "y"}, {"y", x(maxLine - 2)}, {x(maxLine-3) + " "}, {"#" + x(maxLine-3)}, {x(maxLine - 3), ""}, {x(maxLine - 6), "", ""}, {x(100), x(99), x(99)},
	} {
		line, e := lexeme.Join(most)
		if len(line) != maxLine || e != api.OK {
			t.Errorf("Join(%q) = %q, %v; want %d bytes", most, line, e, maxLine)
		}
		checkFields(t, line, most, api.OK)
		for i := range most {
			more := slices.Clone(most)
			more[i] += "x"
			if most[i] != "" { // an empty field without its quotes is not longer
				checkJoin(t, more, "", api.ErrLong)
			}
			more[i] += "\x7f"
			checkJoin(t, more, "", api.ErrArg)
		}
		checkJoin(t, append(slices.Clone(most), "z"), "", api.ErrLong)
		checkJoin(t, append(slices.Clone(most), ""), "", api.ErrLong)
		checkJoin(t, append(slices.Clone(most), `"`), "", api.ErrArg)
	}
	checkJoin(t, slices.Repeat([]string{"x"}, 150), strings.Repeat("x ", 149)+"x", api.OK)
	checkJoin(t, slices.Repeat([]string{"x"}, 151), "", api.ErrLong)
	checkJoin(t, slices.Repeat([]string{""}, 100), strings.Repeat(`"" `, 99)+`""`, api.OK)
	checkJoin(t, slices.Repeat([]string{""}, 101), "", api.ErrLong)
	checkJoin(t, make([]string, 1<<20), "", api.ErrLong)
	checkJoin(t, append(make([]string, 1<<20), "\t"), "", api.ErrArg)
	checkJoin(t, []string{x(1 << 20)}, "", api.ErrLong)
	checkJoin(t, []string{x(1<<20) + "\n"}, "", api.ErrArg)
}

// R4: Join changes nothing, and neither reads nor writes behind the length of its fields.
func TestJoinMemory(t *testing.T) {
	all := []string{"a", "b c", "\n", `"`}
	checkJoin(t, all[:2], `a "b c"`, api.OK)
	checkJoin(t, all[:3], "", api.ErrArg)
	if !slices.Equal(all, []string{"a", "b c", "\n", `"`}) {
		t.Errorf("the fields were changed to %q", all)
	}
}

// R4: the fields of a call are not those of another one.
func TestFieldsMemory(t *testing.T) {
	a, _ := lexeme.Fields(`a "b c" d`)
	b, _ := lexeme.Fields(`x "y z" w`)
	a[0] = "changed"
	c, _ := lexeme.Fields(`a "b c" d`)
	if !slices.Equal(b, []string{"x", "y z", "w"}) || !slices.Equal(c, []string{"a", "b c", "d"}) {
		t.Errorf("fields after a change: %q, %q", b, c)
	}
	lines, _, _ := lexeme.Lines("a\nb")
	lines[0] = "changed"
	checkLines(t, "a\nb", []string{"a", "b"}, 0, api.OK)
}

// P5.3, P5.4: all lists of few short fields have the line that is defined, of which they are the fields.
func TestJoinAll(t *testing.T) {
	var fields []string
	each("a# ~", 3, func(field string) { fields = append(fields, field) })
	var grow func(list []string, more int)
	grow = func(list []string, more int) {
		written := make([]string, len(list))
		for i, field := range list {
			written[i] = field
			if field == "" || strings.Contains(field, " ") || strings.Contains(field, "#") {
				written[i] = `"` + field + `"`
			}
		}
		line := strings.Join(written, " ")
		checkJoin(t, list, line, api.OK)
		checkFields(t, line, list, api.OK)
		if more > 0 {
			for _, field := range fields {
				grow(append(list[:len(list):len(list)], field), more-1)
			}
		}
	}
	grow(nil, 3)
}

// P5.6: a comment does not change the fields of a line that is not wrong, whatever it is.
func TestComments(t *testing.T) {
	comments := []string{"#", "# x", "#\"", "##", "#\n", "#\x07\xff\t\r\x00", "# \"a b\" #", "#" + strings.Repeat("x", 250)}
	each(" \t#\"a", 6, func(line string) {
		want, e := lexeme.Fields(line)
		if e != api.OK {
			return
		}
		for _, comment := range comments {
			checkFields(t, line+comment, want, api.OK)
		}
	})
	for b := range 256 {
		checkFields(t, `a "b c" d#`+string([]byte{byte(b)}), []string{"a", "b c", "d"}, api.OK)
	}
}
