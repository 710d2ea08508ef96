package show_test

import (
	"regexp"
	"strconv"
	"strings"

	"tapestry/api"
)

// A second reading of the chapter: nodes are told by joining texts, and a text is taken to be one of nodes by patterns, from within.

// quotedBy tells a text in quotes.
func quotedBy(s string) string {
	return `"` + strings.NewReplacer(`"`, `\"`, `\`, `\\`, "\n", `\n`).Replace(s) + `"`
}

// plainly tells a value that an attribute may have.
func plainly(v api.Value) (string, bool) {
	if len(v.L) > 0 || len(v.F) > 0 || v.Elem != 0 || v.Key != "" || v.HasKey {
		return "", false
	}
	switch {
	case v.Kind == api.Int && v.S == "":
		return strconv.FormatInt(v.N, 10), true
	case v.Kind == api.Bool && v.S == "" && v.N == 0:
		return "no", true
	case v.Kind == api.Bool && v.S == "" && v.N == 1:
		return "yes", true
	case v.Kind == api.Text && v.N == 0 && len(v.S) <= 4096:
		return quotedBy(v.S), true
	}
	return "", false
}

// readingOf: the nodes as text, and whether they may be.
func readingOf(l []api.Node) (string, bool) {
	var parts []string
	for _, n := range l {
		kids, ok := readingOf(n.Kids)
		if !ok {
			return "", false
		}
		var attrs []string
		for i, f := range n.Attrs {
			v, ok := plainly(f.Value)
			if !ok || f.Name == "" || len(f.Name) > 4096 || i > 0 && f.Name <= n.Attrs[i-1].Name {
				return "", false
			}
			attrs = append(attrs, quotedBy(f.Name)+" "+v)
		}
		if n.Tag != "" {
			if len(n.Tag) > 4096 || n.Text != "" {
				return "", false
			}
			parts = append(parts, "("+quotedBy(n.Tag)+" {"+strings.Join(attrs, " ")+"} ["+kids+"])")
			continue
		}
		if len(n.Text) > 4096 || len(n.Attrs) > 0 || len(n.Kids) > 0 {
			return "", false
		}
		parts = append(parts, quotedBy(n.Text))
	}
	return strings.Join(parts, " "), true
}

// Words of such texts, as letters: t a text in quotes, e an empty one, v a number, yes or no; brackets and blanks as they are.
var (
	aWord   = regexp.MustCompile(`^(?:"(?:[^"\\\n]|\\["\\n])*"|yes|no|0|-?[1-9][0-9]*|[][(){} ])`)
	aRecord = regexp.MustCompile(`\{(?:t [tev](?: t [tev])*)?\}`)
	aHost   = regexp.MustCompile(`\(t R \[(?:[teh](?: [teh])*)?\]\)`)
	row     = regexp.MustCompile(`^(?:[teh](?: [teh])*)?$`)
)

// letter of a word; 0: there is none such.
func letter(w string) byte {
	switch {
	case w == `""`:
		return 'e'
	case w[0] == '"':
		if len(unquoted(w)) > 4096 {
			return 0
		}
		return 't'
	case len(w) == 1 && strings.Contains("[](){} ", w):
		return w[0]
	case w != "yes" && w != "no":
		if _, err := strconv.ParseInt(w, 10, 64); err != nil {
			return 0
		}
	}
	return 'v'
}

func unquoted(w string) string {
	return strings.NewReplacer(`\"`, `"`, `\\`, `\`, `\n`, "\n").Replace(w[1 : len(w)-1])
}

// isReading: is the text that of nodes that may be?
func isReading(s string) bool {
	var letters []byte
	var words []string
	for s != "" {
		w := aWord.FindString(s)
		if w == "" || letter(w) == 0 {
			return false
		}
		letters, words, s = append(letters, letter(w)), append(words, w), s[len(w):]
	}
	told := string(letters)
	for _, at := range aRecord.FindAllStringIndex(told, -1) {
		for i := at[0] + 5; i < at[1]-1; i += 4 {
			if unquoted(words[i]) <= unquoted(words[i-4]) {
				return false
			}
		}
	}
	told = aRecord.ReplaceAllString(told, "R")
	for last := ""; told != last; {
		last, told = told, aHost.ReplaceAllString(told, "h")
	}
	return row.MatchString(told)
}
