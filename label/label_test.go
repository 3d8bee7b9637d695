package label_test

import (
	"fmt"
	"maps"
	"regexp"
	"slices"
	"strings"
	"testing"

	"windrose/api"
	"windrose/label"
)

// series is a name and labels, whose names and values are told by turns.
func series(name string, words ...string) api.Series {
	s := api.Series{Name: name}
	for i := 0; i+1 < len(words); i += 2 {
		s.Labels = append(s.Labels, api.Label{Name: words[i], Value: words[i+1]})
	}
	return s
}

func signs(n int) string { return strings.Repeat("q", n) }

// alike holds series against each other without the layer's own Same.
func alike(a, b api.Series) bool {
	return fmt.Sprintf("%q", a) == fmt.Sprintf("%q", b)
}

func isZero(s api.Series) bool { return s.Name == "" && len(s.Labels) == 0 }

// The chapter's words as patterns; the labels' order, and whether one stands twice, are told by slowParse.
var (
	slowName  = regexp.MustCompile(`\A[a-z]{1,16}\z`)
	slowValue = regexp.MustCompile(`\A[\x20-\x7e]{0,16}\z`)
	slowLabel = regexp.MustCompile(`([a-z]{1,16})="((?:[ !#-\[\]-~]|\\"|\\\\){0,16})"`)
	slowText  = regexp.MustCompile(`\A([a-z]{1,16})(?:\{` + slowLabel.String() + `(?:,` + slowLabel.String() + `){0,3}\})?\z`)
)

// slowParse reads a text by the patterns.
func slowParse(text string) (api.Series, api.Errno) {
	m := slowText.FindStringSubmatch(text)
	if m == nil {
		return api.Series{}, api.ErrText
	}
	values := map[string]string{}
	found := slowLabel.FindAllStringSubmatch(text[len(m[1]):], -1)
	for _, l := range found {
		values[l[1]] = strings.NewReplacer(`\"`, `"`, `\\`, `\`).Replace(l[2])
	}
	if len(values) < len(found) {
		return api.Series{}, api.ErrText
	}
	return slowSeries(m[1], values), api.OK
}

func slowSeries(name string, values map[string]string) api.Series {
	s := series(name)
	for _, n := range slices.Sorted(maps.Keys(values)) {
		s.Labels = append(s.Labels, api.Label{Name: n, Value: values[n]})
	}
	return s
}

// slowMayBe tells by the patterns whether a series may be.
func slowMayBe(s api.Series) bool {
	if !slowName.MatchString(s.Name) || len(s.Labels) > 4 {
		return false
	}
	for i, l := range s.Labels {
		if !slowName.MatchString(l.Name) || !slowValue.MatchString(l.Value) || i > 0 && l.Name <= s.Labels[i-1].Name {
			return false
		}
	}
	return true
}

// slowPrint is the text of a series that may be.
func slowPrint(s api.Series) string {
	var l []string
	for _, x := range s.Labels {
		l = append(l, x.Name+`="`+strings.NewReplacer(`"`, `\"`, `\`, `\\`).Replace(x.Value)+`"`)
	}
	if l == nil {
		return s.Name
	}
	return s.Name + "{" + strings.Join(l, ",") + "}"
}

// chance is a row of numbers without a pattern, the same in each run.
type chance uint64

func (c *chance) below(n int) int {
	x := uint64(*c)
	x ^= x << 13
	x ^= x >> 7
	x ^= x << 17
	*c = chance(x)
	return int(x >> 33 % uint64(n))
}

func (c *chance) text(from string, n int) string {
	b := make([]byte, n)
	for i := range b {
		b[i] = from[c.below(len(from))]
	}
	return string(b)
}

// series is one that may be; its names are short, so that some are met again.
func (c *chance) series() api.Series {
	values := map[string]string{}
	for range c.below(5) {
		values[c.text("abz", 1+c.below(2))] = c.text(` "\,={}a~`, c.below(17))
	}
	return slowSeries(c.text("az", 1+c.below(16)), values)
}

// checkAll holds Check, Print and With against whether a series may be.
func checkAll(t *testing.T, s api.Series, mayBe bool) {
	t.Helper()
	want := api.OK
	if !mayBe {
		want = api.ErrArg
	}
	if e := label.Check(s); e != want {
		t.Errorf("Check(%q) = %d", s, e)
	}
	text, e := label.Print(s)
	if e != want || !mayBe && text != "" || mayBe && text != slowPrint(s) {
		t.Errorf("Print(%q) = %q, %d", s, text, e)
	}
	if mayBe {
		return
	}
	if x, e := label.With(s, "a", "v"); e != api.ErrArg || !isZero(x) {
		t.Errorf("With(%q, a, v) = %q, %d", s, x, e)
	}
	if x, e := label.With(s, "a", ""); e != api.ErrArg || !isZero(x) {
		t.Errorf("With(%q, a, nothing) = %q, %d", s, x, e)
	}
}

// names are texts, and whether they are names.
func names() map[string]bool {
	return map[string]bool{
		"": false, "a": true, "z": true, "cpu": true, signs(16): true, signs(17): false, signs(5000): false,
		"`": false, "{": false, "A": false, "Z": false, "0": false, "_": false, " ": false, "a ": false, " a": false,
		"a\x00": false, "ab1": false, "ä": false, "aé": false, "\xff": false, "a\xc3": false, "ａ": false, "日本": false, "\ufffd": false,
		signs(15) + "a": true, signs(15) + "Q": false, signs(15) + "é": false, strings.Repeat("é", 8): false,
	}
}

func TestCheckNames(t *testing.T) {
	for n, ok := range names() {
		checkAll(t, series(n), ok)
		checkAll(t, series(n, "a", "x"), ok)
		checkAll(t, series("cpu", n, "x"), ok)
	}
	for b := range 256 {
		one := string([]byte{byte(b)})
		ok := b >= 'a' && b <= 'z'
		checkAll(t, series(one), ok)
		checkAll(t, series("cpu", "a"+one, "x"), ok)
	}
}

func TestCheckValues(t *testing.T) {
	values := map[string]bool{
		"": true, " ": true, "x": true, "~": true, `"`: true, `\`: true, `\"\"`: true, "{a=,}": true,
		signs(15): true, signs(16): true, signs(17): false, signs(5000): false, strings.Repeat(`"`, 16): true, strings.Repeat(`\`, 16): true, strings.Repeat(`\`, 17): false,
		"\x1f": false, "\x7f": false, "\x20\x7e": true, "a\n": false, "\x00": false,
		"ä": false, "aé": false, "\xff": false, "a\xc3": false, "日本": false, "\ufffd": false, strings.Repeat("é", 8): false, "\u0120": false,
	}
	for v, ok := range values {
		checkAll(t, series("cpu", "a", v), ok)
		checkAll(t, series("cpu", "a", "x", "b", v), ok)
	}
	for b := range 256 {
		checkAll(t, series("cpu", "a", "x"+string([]byte{byte(b)})), b >= 32 && b <= 126)
	}
}

func TestCheckLabels(t *testing.T) {
	checkAll(t, api.Series{}, false)
	checkAll(t, series("cpu"), true)
	checkAll(t, api.Series{Name: "cpu", Labels: []api.Label{}}, true)
	checkAll(t, series("cpu", "a", "x", "b", "x"), true)
	checkAll(t, series("cpu", "a", "x", "b", "x", "c", "x", "d", "x"), true)
	checkAll(t, series("cpu", "a", "x", "b", "x", "c", "x", "d", "x", "e", "x"), false)
	checkAll(t, series("cpu", "b", "x", "a", "x"), false)
	checkAll(t, series("cpu", "a", "x", "c", "x", "b", "x"), false)
	checkAll(t, series("cpu", "a", "x", "a", "x"), false)
	checkAll(t, series("cpu", "a", "x", "a", "y"), false)
	checkAll(t, series("cpu", "a", "x", "b", "x", "b", "x"), false)
	checkAll(t, series("cpu", "a", "x", "ab", "x", "b", "x"), true)
	checkAll(t, series("cpu", "ab", "x", "a", "x"), false)
	checkAll(t, series("cpu", "cpu", "cpu"), true)
}

func TestCheckAny(t *testing.T) {
	c := chance(77)
	for range 20000 {
		s := series(c.text("abcA", 1+c.below(3)))
		for range c.below(6) {
			s.Labels = append(s.Labels, api.Label{Name: c.text("abcdefgh", c.below(3)), Value: c.text("xy\x7f\\\"", c.below(4))})
		}
		checkAll(t, s, slowMayBe(s))
	}
}

// written are texts as they are printed, and their series.
func written() map[string]api.Series {
	return map[string]api.Series{
		`cpu`:                          series("cpu"),
		`c`:                            series("c"),
		signs(16):                      series(signs(16)),
		`cpu{host="b"}`:                series("cpu", "host", "b"),
		`cpu{host="b",zone="a"}`:       series("cpu", "host", "b", "zone", "a"),
		`cpu{a=""}`:                    series("cpu", "a", ""),
		`cpu{a="",b=""}`:               series("cpu", "a", "", "b", ""),
		`cpu{a=" "}`:                   series("cpu", "a", " "),
		`cpu{a="~"}`:                   series("cpu", "a", "~"),
		`cpu{a="\""}`:                  series("cpu", "a", `"`),
		`cpu{a="\\"}`:                  series("cpu", "a", `\`),
		`cpu{a="\\\"x"}`:               series("cpu", "a", `\"x`),
		`cpu{a="x\",b=\"y"}`:           series("cpu", "a", `x",b="y`),
		`cpu{a="{b=c,d}"}`:             series("cpu", "a", `{b=c,d}`),
		`cpu{a="x",b="y",c="z",d="w"}`: series("cpu", "a", "x", "b", "y", "c", "z", "d", "w"),
		`cpu{` + signs(16) + `="` + signs(16) + `"}`:     series("cpu", signs(16), signs(16)),
		`cpu{a="` + strings.Repeat(`\"`, 16) + `"}`:      series("cpu", "a", strings.Repeat(`"`, 16)),
		`cpu{a="` + strings.Repeat(`\\`, 16) + `",b=""}`: series("cpu", "a", strings.Repeat(`\`, 16), "b", ""),
	}
}

func TestPrintAndParseKnown(t *testing.T) {
	for text, s := range written() {
		if got, e := label.Print(s); got != text || e != api.OK {
			t.Errorf("Print(%q) = %s, %d", s, got, e)
		}
		if got, e := label.Parse(text); !alike(got, s) || e != api.OK {
			t.Errorf("Parse(%s) = %q, %d", text, got, e)
		}
	}
}

// TestExample is the chapter's.
func TestExample(t *testing.T) {
	s, e := label.Parse(`cpu{zone="a",host="b"}`)
	if want := series("cpu", "host", "b", "zone", "a"); e != api.OK || !alike(s, want) || !label.Same(s, want) {
		t.Errorf("%q, %d", s, e)
	}
	if text, e := label.Print(s); text != `cpu{host="b",zone="a"}` || e != api.OK {
		t.Errorf("%s, %d", text, e)
	}
}

func TestParseAnyOrder(t *testing.T) {
	want := series("cpu", "a", "x", "b", "", "c", `"`, "d", "w")
	l := []string{`a="x"`, `b=""`, `c="\""`, `d="w"`}
	orders := 0
	for i := range 4 * 4 * 4 * 4 {
		p := []int{i % 4, i / 4 % 4, i / 16 % 4, i / 64}
		text := "cpu{" + l[p[0]] + "," + l[p[1]] + "," + l[p[2]] + "," + l[p[3]] + "}"
		got, e := label.Parse(text)
		if slices.Sort(p); slices.Equal(p, []int{0, 1, 2, 3}) {
			orders++
			if !alike(got, want) || e != api.OK {
				t.Errorf("Parse(%s) = %q, %d", text, got, e)
			}
		} else if !isZero(got) || e != api.ErrText {
			t.Errorf("Parse(%s) = %q, %d: a label stands twice", text, got, e)
		}
	}
	if orders != 24 {
		t.Error(orders, "orders")
	}
}

func TestParseWrong(t *testing.T) {
	wrong := []string{
		``, ` `, `{`, `}`, `"`, `\`, `{a="x"}`, `1`, `Cpu`, `cpu `, ` cpu`, "cpu\n", `cp u`, "cpu\x00", signs(17), `cpu}`, `cpu=`, `cpu,`, `cpu"x"`,
		`cpu{`, `cpu{}`, `cpu{a`, `cpu{a}`, `cpu{a=`, `cpu{a=}`, `cpu{a="`, `cpu{a="x`, `cpu{a="x"`, `cpu{a="x",`, `cpu{a="x",}`, `cpu{,a="x"}`, `cpu{a="x",,b="y"}`,
		`cpu{a="x"}}`, `cpu{a="x"} `, `cpu{a="x"}x`, `cpu{a="x"}{b="y"}`, `cpu{a="x"},`, "cpu{a=\"x\"}\x00", `cpu{{a="x"}`,
		`cpu {a="x"}`, `cpu{ a="x"}`, `cpu{a ="x"}`, `cpu{a= "x"}`, `cpu{a="x" }`, `cpu{a="x", b="y"}`, `cpu{a="x"b="y"}`, `cpu{a="x";b="y"}`,
		`cpu{="x"}`, `cpu{A="x"}`, `cpu{a1="x"}`, `cpu{a==""}`, `cpu{a=x}`, `cpu{a='x'}`, `cpu{a="x""}`, `cpu{a=""x"}`,
		`cpu{a="\x"}`, `cpu{a="\"}`, `cpu{a="\`, `cpu{a="\n"}`, `cpu{a="\ "}`, `cpu{a="\\\"}`, `cpu{\a="x"}`, `cpu\{a="x"}`,
		`cpu{a="x",a="x"}`, `cpu{a="x",a="y"}`, `cpu{a="x",b="y",a="z"}`, `cpu{b="",a="",b=""}`,
		`cpu{a="x",b="x",c="x",d="x",e="x"}`, `cpu{a="x",b="x",c="x",d="x",a="x"}`,
		"cpu{a=\"\x1f\"}", "cpu{a=\"\x7f\"}", "cpu{a=\"\n\"}", `cpu{a="ä"}`, `cpu{ä="x"}`, `ä`, `cpuä`, "\xff", "cpu{a=\"\xff\"}", "cpu{a=\"\ufffd\"}", "cpu{a=\"x\"}\xff", "cpu\ufffd", "cpu{a=\"\u0122\"}", "\u0161",
		`cpu{` + signs(17) + `="x"}`, `cpu{a="` + signs(17) + `"}`, `cpu{a="` + strings.Repeat(`\"`, 17) + `"}`, `cpu{a="` + signs(15) + `\\\\"}`, signs(17) + `{a="x"}`,
		strings.Repeat("a", 1<<20), `cpu{a="` + strings.Repeat("x", 1<<20), `cpu{` + strings.Repeat(`a="x",`, 1<<17),
	}
	for _, text := range wrong {
		if s, e := label.Parse(text); e != api.ErrText || !isZero(s) {
			t.Errorf("Parse(%.40q) = %q, %d", text, s, e)
		}
	}
}

// holdParse holds Parse against the patterns, and Print against what it read.
func holdParse(t *testing.T, text string) {
	t.Helper()
	want, f := slowParse(text)
	got, e := label.Parse(text)
	if e != f || !label.Same(got, want) {
		t.Fatalf("Parse(%q) = %q, %d, not %q, %d", text, got, e, want, f)
	}
	if e == api.OK {
		if again, f := label.Print(got); f != api.OK || again != slowPrint(want) {
			t.Fatalf("Print of Parse(%q) = %q, %d", text, again, f)
		}
	}
}

// every calls a function with each text of these signs up to a length.
func every(from string, most int, f func(string)) {
	f("")
	if most == 0 {
		return
	}
	for _, sign := range from {
		every(from, most-1, func(rest string) { f(string(sign) + rest) })
	}
}

func TestParseAllShortTexts(t *testing.T) {
	every(`a{}=",\é`, 4, func(s string) { holdParse(t, s) })
	every(`b{}=",\`, 5, func(s string) { holdParse(t, `cpu{a="`+s) })
	every(`a}=",\`, 4, func(s string) { holdParse(t, `cpu{a="x",b="`+s+`"}`) })
	every(`a}=",`, 5, func(s string) { holdParse(t, `cpu{`+s+`"}`) })
}

// TestParseOneSignOff: each sign of a text taken away, doubled or made another one, and each beginning.
func TestParseOneSignOff(t *testing.T) {
	for text := range written() {
		for i := range text {
			holdParse(t, text[:i])
			holdParse(t, text[:i]+text[i+1:])
			holdParse(t, text[:i]+text[i:i+1]+text[i:])
			for _, x := range []string{"a", "z", "b", `"`, `\`, "{", "}", ",", "=", " ", "\x1f", "\x7f", "é", "\xff"} {
				holdParse(t, text[:i]+x+text[i+1:])
				holdParse(t, text[:i]+x+text[i:])
			}
		}
		holdParse(t, text+text)
	}
}

// TestThereAndBack is Lb3.
func TestThereAndBack(t *testing.T) {
	c := chance(3)
	for range 20000 {
		s := c.series()
		checkAll(t, s, true)
		text, _ := label.Print(s)
		if got, e := label.Parse(text); e != api.OK || !alike(got, s) {
			t.Fatalf("Parse(%s) = %q, %d", text, got, e)
		}
	}
}

// TestUnlikeTexts: of many series that are near each other, no two have one text.
func TestUnlikeTexts(t *testing.T) {
	values := []string{"none", "", `"`, `\`, `\\`, `\"`, `",b="`, `,`, `}`, `"}`, `\",b=\"`}
	texts := map[string]int{}
	n := 0
	for _, name := range []string{"a", "aa", "b"} {
		for _, x := range values {
			for _, y := range values {
				for _, z := range values {
					s := series(name)
					for i, v := range []string{x, y, z} {
						if v != "none" {
							s.Labels = append(s.Labels, api.Label{Name: string(rune('a' + i)), Value: v})
						}
					}
					text, e := label.Print(s)
					if e != api.OK {
						t.Fatalf("Print(%q): %d", s, e)
					}
					texts[text]++
					n++
				}
			}
		}
	}
	if len(texts) != n {
		t.Errorf("%d texts of %d series", len(texts), n)
	}
}

func TestValue(t *testing.T) {
	s := series("cpu", "a", "x", "b", "", "cc", `"\`, "d", signs(16))
	for name, want := range map[string]string{"a": "x", "b": "", "cc": `"\`, "d": signs(16), "c": "", "ccc": "", "": "", "cpu": "", "name": "", "A": "", "ä": "", "z": ""} {
		if got := label.Value(s, name); got != want {
			t.Errorf("Value of %q: %q", name, got)
		}
	}
	if got := label.Value(api.Series{}, "a") + label.Value(series("cpu"), "a"); got != "" {
		t.Errorf("Value without labels: %q", got)
	}
	// Series that may not be have values, too.
	odd := series("", "b", "ä", "a", signs(40), "", "e", "Ö", "o", "x", "1", "y", "2")
	for name, want := range map[string]string{"b": "ä", "a": signs(40), "": "e", "Ö": "o", "x": "1", "y": "2", "c": ""} {
		if got := label.Value(odd, name); got != want {
			t.Errorf("Value of %q: %q", name, got)
		}
	}
}

func is(name, value string) api.Match  { return api.Match{Name: name, Value: value} }
func not(name, value string) api.Match { return api.Match{Name: name, Value: value, Not: true} }

func TestMatches(t *testing.T) {
	s := series("cpu", "a", "x", "b", "")
	odd := series("", "b", "ä", "a", signs(40), "", "e")
	for i, c := range []struct {
		s    api.Series
		l    []api.Match
		want bool
	}{
		{s, nil, true}, {s, []api.Match{}, true}, {api.Series{}, nil, true},
		{s, []api.Match{is("a", "x")}, true}, {s, []api.Match{is("a", "y")}, false}, {s, []api.Match{is("a", "")}, false},
		{s, []api.Match{not("a", "x")}, false}, {s, []api.Match{not("a", "y")}, true}, {s, []api.Match{not("a", "")}, true},
		{s, []api.Match{is("b", "")}, true}, {s, []api.Match{is("b", "x")}, false}, {s, []api.Match{not("b", "")}, false},
		{s, []api.Match{is("c", "")}, true}, {s, []api.Match{is("c", "x")}, false}, {s, []api.Match{not("c", "")}, false}, {s, []api.Match{not("c", "x")}, true},
		{s, []api.Match{is("a", "x"), is("b", ""), not("c", "x")}, true},
		{s, []api.Match{is("a", "y"), is("b", ""), not("c", "x")}, false},
		{s, []api.Match{is("a", "x"), is("b", "x"), not("c", "x")}, false},
		{s, []api.Match{is("a", "x"), is("b", ""), not("c", "")}, false},
		{s, []api.Match{is("a", "x"), is("a", "y")}, false}, {s, []api.Match{is("a", "x"), is("a", "x"), not("a", "y")}, true},
		{s, []api.Match{is("", "cpu")}, false}, {s, []api.Match{is("", "")}, true}, {s, []api.Match{is("Ä", "")}, true}, {s, []api.Match{not("a", "ä")}, true},
		{odd, []api.Match{is("b", "ä"), is("a", signs(40)), is("", "e"), not("", "")}, true},
		{odd, []api.Match{is("b", "a")}, false}, {api.Series{}, []api.Match{is("a", "")}, true}, {api.Series{}, []api.Match{not("a", "")}, false},
	} {
		if got := label.Matches(c.s, c.l); got != c.want {
			t.Errorf("%d: Matches(%q, %+v) = %v", i, c.s, c.l, got)
		}
	}
}

func TestWithKnown(t *testing.T) {
	none, two, four := series("cpu"), series("cpu", "b", "x", "d", "y"), series("cpu", "b", "1", "d", "2", "f", "3", "h", "4")
	for i, c := range []struct {
		s           api.Series
		name, value string
		want        api.Series
		e           api.Errno
	}{
		{none, "a", "v", series("cpu", "a", "v"), api.OK},
		{none, "a", "", none, api.OK},
		{two, "a", "v", series("cpu", "a", "v", "b", "x", "d", "y"), api.OK},
		{two, "b", "v", series("cpu", "b", "v", "d", "y"), api.OK},
		{two, "b", "x", two, api.OK},
		{two, "c", "v", series("cpu", "b", "x", "c", "v", "d", "y"), api.OK},
		{two, "d", "v", series("cpu", "b", "x", "d", "v"), api.OK},
		{two, "e", `"\`, series("cpu", "b", "x", "d", "y", "e", `"\`), api.OK},
		{two, "b", "", series("cpu", "d", "y"), api.OK},
		{two, "d", "", series("cpu", "b", "x"), api.OK},
		{two, "c", "", two, api.OK},
		{two, signs(16), signs(16), series("cpu", "b", "x", "d", "y", signs(16), signs(16)), api.OK},
		{four, "a", "v", api.Series{}, api.ErrFull},
		{four, "c", "v", api.Series{}, api.ErrFull},
		{four, "z", "v", api.Series{}, api.ErrFull},
		{four, "c", "", four, api.OK},
		{four, "d", "v", series("cpu", "b", "1", "d", "v", "f", "3", "h", "4"), api.OK},
		{four, "h", "v", series("cpu", "b", "1", "d", "2", "f", "3", "h", "v"), api.OK},
		{four, "b", "", series("cpu", "d", "2", "f", "3", "h", "4"), api.OK},
		{series("cpu", "a", ""), "b", "v", series("cpu", "a", "", "b", "v"), api.OK},
		{series("cpu", "a", ""), "a", "", none, api.OK},
		{series("cpu", "a", ""), "b", "", series("cpu", "a", ""), api.OK},
		{four, "c", signs(17), api.Series{}, api.ErrArg},
		{four, "C", "v", api.Series{}, api.ErrArg},
		{series("cpu", "b", "1", "d", "2", "f", "3", "h", "4", "i", "5"), "c", "v", api.Series{}, api.ErrArg},
		{series("cpu", "b", "1", "d", "2", "f", "3", "h", "4", "i", "5"), "i", "", api.Series{}, api.ErrArg},
		{series("cpu", "a", "x", "a", "x"), "a", "", api.Series{}, api.ErrArg},
		{api.Series{}, "a", "v", api.Series{}, api.ErrArg},
	} {
		got, e := label.With(c.s, c.name, c.value)
		if e != c.e || !alike(got, c.want) {
			t.Errorf("%d: With(%q, %q, %q) = %q, %d", i, c.s, c.name, c.value, got, e)
		}
	}
}

func TestWithWrong(t *testing.T) {
	for n, ok := range names() {
		for _, value := range []string{"v", ""} {
			if got, e := label.With(series("cpu"), n, value); (e == api.OK) != ok || !ok && (e != api.ErrArg || !isZero(got)) {
				t.Errorf("With(cpu, %q, %q) = %q, %d", n, value, got, e)
			}
		}
	}
	for _, v := range []string{signs(17), "\x1f", "\x7f", "ä", "\xff", "x\n", strings.Repeat("é", 8)} {
		if got, e := label.With(series("cpu", "a", "x"), "a", v); e != api.ErrArg || !isZero(got) {
			t.Errorf("With(cpu, a, %q) = %q, %d", v, got, e)
		}
	}
}

func TestWithAny(t *testing.T) {
	c := chance(12)
	for range 20000 {
		s := c.series()
		name, value := c.text("abz", 1+c.below(2)), c.text(`x"\`, c.below(3))
		values := map[string]string{}
		for _, l := range s.Labels {
			values[l.Name] = l.Value
		}
		values[name] = value
		if value == "" {
			delete(values, name)
		}
		want, f := slowSeries(s.Name, values), api.OK
		if len(values) > 4 {
			want, f = api.Series{}, api.ErrFull
		}
		if got, e := label.With(s, name, value); e != f || !alike(got, want) {
			t.Fatalf("With(%q, %q, %q) = %q, %d", s, name, value, got, e)
		}
	}
}

func TestSame(t *testing.T) {
	l := []api.Series{
		{}, series("a"), series("b"), series("aa"), series("", "a", ""), series("a", "a", ""), series("a", "", "a"), series("a", "a", "a"), series("a", "a", "b"), series("a", "b", "a"),
		series("a", "a", "x", "b", "y"), series("a", "b", "y", "a", "x"), series("a", "a", "y", "b", "x"), series("a", "a", "x", "b", "y", "c", "z"), series("a", "a", "x", "a", "x"), series("ä", "\xff", "\xfe"),
	}
	for i, a := range l {
		for k, b := range l {
			if label.Same(a, api.Series{Name: b.Name, Labels: slices.Clone(b.Labels)}) != (i == k) {
				t.Errorf("Same(%q, %q) = %v", a, b, i != k)
			}
		}
	}
	if !label.Same(series("a"), api.Series{Name: "a", Labels: []api.Label{}}) {
		t.Error("no labels and the empty list are not the same")
	}
}

// TestNothingHandedInChanges: neither lists nor the room behind them are changed or handed out (R3).
func TestNothingHandedInChanges(t *testing.T) {
	room := series("cpu", "b", "x", "d", "y", "room", "behind", "more", "room")
	was := slices.Clone(room.Labels)
	s := api.Series{Name: "cpu", Labels: room.Labels[:2]}
	matches := []api.Match{is("d", "y"), not("b", "y"), is("room", "behind")}
	for _, name := range []string{"a", "b", "c", "d", "e"} {
		for _, value := range []string{"v", ""} {
			got, _ := label.With(s, name, value)
			for i := range got.Labels[:cap(got.Labels)] {
				got.Labels[:cap(got.Labels)][i] = api.Label{Name: "filled", Value: "filled"}
			}
		}
	}
	label.Check(s)
	label.Print(s)
	label.Value(s, "b")
	label.Matches(s, matches[:2])
	label.Same(s, s)
	if !slices.Equal(room.Labels, was) || matches[2] != is("room", "behind") || matches[0] != is("d", "y") {
		t.Errorf("%q is changed", room)
	}
}

func TestAnswersAreNew(t *testing.T) {
	text := `cpu{d="y",b="x"}`
	a, _ := label.Parse(text)
	for i := range a.Labels[:cap(a.Labels)] {
		a.Labels[:cap(a.Labels)][i] = api.Label{Name: "filled"}
	}
	if b, e := label.Parse(text); e != api.OK || !alike(b, series("cpu", "b", "x", "d", "y")) {
		t.Errorf("Parse answers from memory of an answer ahead: %q, %d", b, e)
	}
}

// TestAnyText: every call ends, and none panics, at texts and series without a pattern.
func TestAnyText(t *testing.T) {
	c := chance(815)
	for range 20000 {
		holdParse(t, c.text("aab{}=\"\",\\\xff\xc3\xa9", c.below(30)))
	}
	long := api.Series{Name: "cpu", Labels: make([]api.Label, 1<<20)}
	if label.Check(long) != api.ErrArg || label.Value(long, "a") != "" || !label.Matches(long, []api.Match{is("a", "")}) || !label.Same(long, long) {
		t.Error("of many labels")
	}
}
