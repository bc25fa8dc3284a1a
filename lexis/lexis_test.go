package lexis

import (
	"math/rand"
	"regexp"
	"slices"
	"strings"
	"testing"

	"damask/api"
)

const long = "abcdefghijklmnop" // a name of MaxName bytes

// spelled writes tokens as kind and text, for short tables.
func spelled(l []api.Token) string {
	kinds := []string{"?", "var", "con", "op", "int", "sign", "word", "end"}
	var s []string
	for _, t := range l {
		if t.Kind == api.TEnd && t.Text == "" {
			s = append(s, "end")
			continue
		}
		s = append(s, kinds[t.Kind]+":"+t.Text)
	}
	return strings.Join(s, " ")
}

func TestTokensOfSources(t *testing.T) {
	for source, want := range map[string]string{
		"":                          "end",
		" \t\n\r":                   "end",
		"f x = x++y":                "var:f var:x sign:= var:x op:++ var:y end",
		"'Z":                        "sign:' con:Z end",
		"x'":                        "var:x' end",
		"x'Z":                       "var:x'Z end",
		"X'_1":                      "con:X'_1 end",
		")'Z":                       "sign:) sign:' con:Z end",
		"+'Z":                       "op:+ sign:' con:Z end",
		"0 10 9223372036854775807":  "int:0 int:10 int:9223372036854775807 end",
		"0+1":                       "int:0 op:+ int:1 end",
		"_ (_)":                     "sign:_ sign:( sign:_ sign:) end",
		"_+a_ a__":                  "sign:_ op:+ var:a_ var:a__ end",
		"= -> => <- : | \\ @ ~ ! .": "sign:= sign:-> sign:=> sign:<- sign:: sign:| sign:\\ sign:@ sign:~ sign:! sign:. end",
		"(){},;":                    "sign:( sign:) sign:{ sign:} sign:, sign:; end",
		"== ->> <-- :: || ~! -":     "op:== op:->> op:<-- op::: op:|| op:~! op:- end",
		"+\\x":                      "op:+\\ var:x end",
		"a--b\nc":                   "var:a var:c end",
		"a --> b\nc -- d":           "var:a var:c end",
		"a |-- b":                   "var:a op:|-- var:b end",
		"-----------------------x":  "end",
		"--\xff\"\n\"":              "",
		"let lets Let let'":         "word:let var:lets con:Let var:let' end",
		"!#$%&*+./<=>?@^|":          "op:!#$%&*+./<=>?@^| end",
		long + " " + "A" + long[1:]: "var:" + long + " con:A" + long[1:] + " end",
	} {
		l, at, e := Tokens(source)
		if want == "" {
			if e != api.ErrSyntax {
				t.Errorf("%q: %v %v", source, spelled(l), e)
			}
			continue
		}
		if e != api.OK || at != 0 || spelled(l) != want {
			t.Errorf("%q: %v %d %v", source, spelled(l), at, e)
		}
	}
}

func TestWhatIsNoToken(t *testing.T) {
	for source, want := range map[string]int{
		"01": 0, "a 00": 2, "1a": 0, "1_": 0, "1'": 0, "1'Z": 0, "9223372036854775808": 0, "10000000000000000000": 0,
		"a _b": 2, "__": 0, "_'": 0, "_1": 0, "'": 0, "a '": 2, "' Z": 0, "''Z": 0, "'z": 0, "'1": 0,
		"\"": 0, "a[": 1, "`": 0, "a\x00": 1, "\xc3\xa9": 0, "a\xc3\xa9": 1, "a\v": 1,
		long + "q": 0, "x A" + long: 2, "'A" + long: 1,
		"a " + strings.Repeat("+", 17): 2, "-+" + strings.Repeat("-", 15): 0,
	} {
		if l, at, e := Tokens(source); e != api.ErrSyntax || at != want || len(l) != 0 {
			t.Errorf("%q: %v %d %v", source, l, at, e)
		}
	}
}

func TestSourceOfTheGreatestLength(t *testing.T) {
	full := strings.Repeat("a ", api.MaxSource/2)
	if l, at, e := Tokens(full); e != api.OK || at != 0 || len(l) != api.MaxSource/2+1 || l[len(l)-1].At != api.MaxSource {
		t.Error(len(l), at, e)
	}
	for _, s := range []string{full + " ", "\"" + full} {
		if l, at, e := Tokens(s); e != api.ErrFull || at != 0 || len(l) != 0 {
			t.Error(len(l), at, e)
		}
	}
}

func TestPlace(t *testing.T) {
	source := "ab\n\ncd\n"
	want := [][2]int{{1, 1}, {1, 2}, {1, 3}, {2, 1}, {3, 1}, {3, 2}, {3, 3}, {4, 1}}
	for at, w := range want {
		if line, column, e := Place(source, at); line != w[0] || column != w[1] || e != api.OK {
			t.Error(at, line, column, e)
		}
	}
	for _, at := range []int{-1, len(source) + 1, -1 << 63, 1<<63 - 1} {
		if line, column, e := Place(source, at); line != 0 || column != 0 || e != api.ErrArg {
			t.Error(at, line, column, e)
		}
	}
	if line, column, e := Place("", 0); line != 1 || column != 1 || e != api.OK {
		t.Error(line, column, e)
	}
	if line, column, e := Place(strings.Repeat("\n", 20000), 20000); line != 20001 || column != 1 || e != api.OK {
		t.Error(line, column, e)
	}
}

func TestNames(t *testing.T) {
	for s, want := range map[string]string{
		"a": "small", "a'": "small", "aB_9'": "small", long: "small", "lets": "small", "A": "capital", "Let": "capital",
		"+": "op", "==": "op", "->>": "op", "<--": "op", "-": "op", "..": "op", "\\\\": "op", strings.Repeat("+", 16): "op",
		"": "", "let": "", "where": "", long + "q": "", "A" + long: "", "_": "", "_a": "", "'": "", "'A": "", "1": "", "1a": "",
		"a b": "", "a ": "", " a": "", "a+": "", "--": "", "---": "", "--+": "", "->": "", "=": "", "!": "", ".": "",
		strings.Repeat("+", 17): "", "+ +": "", "(": "", ";": "", "\xc3\xa9": "",
	} {
		if IsSmall(s) != (want == "small") || IsCapital(s) != (want == "capital") || IsOp(s) != (want == "op") {
			t.Errorf("%q: %v %v %v", s, IsSmall(s), IsCapital(s), IsOp(s))
		}
	}
}

func TestWords(t *testing.T) {
	want := strings.Fields("case class data deriving do else family forall if import in infix infixl infixr instance let module newtype of then where")
	l := Words()
	if !slices.Equal(l, want) {
		t.Error(l)
	}
	l[0] = "x"
	if !slices.Equal(Words(), want) {
		t.Error("a result is shared")
	}
	for _, w := range want {
		if l, _, e := Tokens(w); e != api.OK || l[0].Kind != api.TWord || IsSmall(w) {
			t.Error(w, l, e)
		}
	}
}

func TestJoin(t *testing.T) {
	for source, want := range map[string]string{
		"":               "",
		" a  b ":         "a b",
		"f x'='Z--end":   "f x' = 'Z",
		"('A 'B)\n\t_ 1": "( 'A 'B ) _ 1",
	} {
		l, _, _ := Tokens(source)
		if s, e := Join(l); s != want || e != api.OK {
			t.Errorf("%q: %q %v", source, s, e)
		}
	}
	if s, e := Join(nil); s != "" || e != api.OK {
		t.Error(s, e)
	}
	end := api.Token{Kind: api.TEnd}
	quote := api.Token{Kind: api.TSign, Text: "'", At: -7}
	name := api.Token{Kind: api.TVar, Text: "a"}
	if s, e := Join([]api.Token{end, name, end, name, quote, end, name, quote}); s != "a a 'a '" || e != api.OK {
		t.Errorf("%q %v", s, e)
	}
}

func TestJoinOfWhatIsNoToken(t *testing.T) {
	for _, x := range []api.Token{
		{}, {Text: "a"}, {Kind: api.TVar}, {Kind: api.TVar, Text: "A"}, {Kind: api.TVar, Text: "let"}, {Kind: api.TVar, Text: "a b"},
		{Kind: api.TCon, Text: "a"}, {Kind: api.TOp, Text: "="}, {Kind: api.TOp, Text: "--"}, {Kind: api.TOp},
		{Kind: api.TInt, Text: "01"}, {Kind: api.TInt, Text: "9223372036854775808"}, {Kind: api.TInt, Text: "-1"}, {Kind: api.TInt},
		{Kind: api.TSign, Text: "+"}, {Kind: api.TSign}, {Kind: api.TWord, Text: "lets"}, {Kind: api.TWord},
		{Kind: api.TEnd, Text: "a"}, {Kind: api.TEnd, Text: " "}, {Kind: 8, Text: "a"}, {Kind: 8}, {Kind: -1, Text: "a"},
	} {
		if s, e := Join([]api.Token{{Kind: api.TVar, Text: "a"}, x}); s != "" || e != api.ErrArg {
			t.Error(x, s, e)
		}
	}
}

var (
	between = regexp.MustCompile(`^([ \t\n\r]|--[^\n]*)+`)
	quote   = regexp.MustCompile(`^'[A-Z]`)
	texts   = []*regexp.Regexp{
		regexp.MustCompile(`^[A-Za-z0-9_']+`),
		regexp.MustCompile(`^[!#$%&*+./<=>?@^|~:\\-]+`),
		regexp.MustCompile(`^[(){},;]`),
	}
	kinds = []struct {
		kind int
		form *regexp.Regexp
	}{
		{api.TWord, regexp.MustCompile(`^(case|class|data|deriving|do|else|family|forall|if|import|in|infix|infixl|infixr|instance|let|module|newtype|of|then|where)$`)},
		{api.TSign, regexp.MustCompile(`^(=|->|=>|<-|:|\||\\|@|~|!|\.|[(){},;_])$`)},
		{api.TInt, regexp.MustCompile(`^(0|[1-9][0-9]{0,17}|[1-8][0-9]{18})$`)},
		{api.TVar, regexp.MustCompile(`^[a-z][A-Za-z0-9_']{0,15}$`)},
		{api.TCon, regexp.MustCompile(`^[A-Z][A-Za-z0-9_']{0,15}$`)},
		{api.TOp, regexp.MustCompile(`^[!#$%&*+./<=>?@^|~:\\-]{1,16}$`)},
	}
)

// expected divides a source by regular expressions: a way of its own to say what the document says.
func expected(source string) ([]api.Token, int, api.Errno) {
	var l []api.Token
	at := 0
next:
	for {
		at += len(between.FindString(source[at:]))
		if at == len(source) {
			return append(l, api.Token{Kind: api.TEnd, At: at}), 0, api.OK
		}
		if quote.MatchString(source[at:]) {
			l = append(l, api.Token{Kind: api.TSign, Text: "'", At: at})
			at++
			continue
		}
		for _, text := range texts {
			s := text.FindString(source[at:])
			for _, k := range kinds {
				if s != "" && k.form.MatchString(s) {
					l = append(l, api.Token{Kind: k.kind, Text: s, At: at})
					at += len(s)
					continue next
				}
			}
		}
		return nil, at, api.ErrSyntax
	}
}

func TestRandomSources(t *testing.T) {
	pieces := strings.Fields("a Z x' 0 1 12 007 let in infixl _ ' '' -- - -> + ++ = | \\ . ( ) { } ; , \" é " + long + " ++++++++++++")
	pieces = append(pieces, " ", " ", "\n", "\t", "\r")
	random := rand.New(rand.NewSource(1))
	good := 0
	for range 20000 {
		var b strings.Builder
		for range random.Intn(9) {
			b.WriteString(pieces[random.Intn(len(pieces))])
			if random.Intn(2) == 0 {
				b.WriteByte(' ')
			}
		}
		source := b.String()
		l, at, e := Tokens(source)
		l2, at2, e2 := expected(source)
		if !slices.Equal(l, l2) || at != at2 || e != e2 {
			t.Fatalf("%q: %v %d %v, want %v %d %v", source, l, at, e, l2, at2, e2)
		}
		if e == api.OK {
			good++
			joinAgain(t, l)
		}
	}
	if good < 1000 {
		t.Error("too few sources are good:", good)
	}
}

// joinAgain holds P1.3 against tokens.
func joinAgain(t *testing.T, l []api.Token) {
	s, e := Join(l)
	again, _, e2 := Tokens(s)
	if e != api.OK || e2 != api.OK || spelled(again) != spelled(l) {
		t.Fatal(l, s, e, again, e2)
	}
	for _, x := range again {
		if !strings.HasPrefix(s[x.At:], x.Text) {
			t.Fatal(s, x)
		}
	}
}
