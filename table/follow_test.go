package table_test

import (
	"math/rand"
	"strings"
	"testing"

	"rota/api"
	"rota/lex"
	"rota/table"
)

// text is what Text answers, which must be one.
func text(t *testing.T, c api.Config) string {
	t.Helper()
	s, err := table.Text(c)
	if err != api.OK {
		t.Fatal(c, err)
	}
	return s
}

// P15.5: Parse of Text is the configuration.
func TestTextAndBack(t *testing.T) {
	r := rand.New(rand.NewSource(1505))
	for range 5000 {
		c := someConfig(r)
		s := text(t, c)
		isTable(t, s, c)
		back, _, _, _ := table.Parse(s)
		isSame(t, back, c, true)
		isText(t, back, s)
	}
}

// P15.5: Text of what Parse answers, parsed again, is the same one.
func TestParseAndBack(t *testing.T) {
	r := rand.New(rand.NewSource(1506))
	for range 5000 {
		s, _, _ := laid(r, someTexts(r))
		c, _, _, err := table.Parse(s)
		if err != api.OK {
			t.Fatal(s, err)
		}
		isTable(t, text(t, c), c)
	}
}

// P15.2: the tokens of a text are those of its lines: two blanks ahead of each
// statement, one between tokens, none ahead of its end.
func TestTextLines(t *testing.T) {
	r := rand.New(rand.NewSource(1507))
	for range 2000 {
		s := text(t, someConfig(r))
		lines := strings.Split(s, "\n")
		if len(lines) < 11 || lines[0] != "cluster {" || lines[len(lines)-2] != "}" || lines[len(lines)-1] != "" {
			t.Fatal(s)
		}
		for _, line := range lines[1 : len(lines)-2] {
			l, _, _, err := lex.Tokens(line)
			var texts []string
			for _, x := range l {
				texts = append(texts, x.Text)
			}
			if err != api.OK || line != "  "+strings.Join(texts[:len(texts)-1], " ")+";" {
				t.Fatal(line)
			}
		}
	}
}

// P15.1, P15.2: great tables are read and written in no long time.
func TestGreat(t *testing.T) {
	c := api.Config{Owners: make([]int, 200000), Windows: make([][]int, 50000), Links: make([]api.Link, 50000), Parts: make([]api.Part, 50000)}
	isTable(t, text(t, c), c)
	isNone(t, text(t, c)+"nodes", 150011, 1, api.ErrTable)
}
