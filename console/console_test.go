package console_test

import (
	"crypto/sha256"
	"encoding/hex"
	"strings"
	"testing"

	"almonry/api"
	"almonry/console"
	"almonry/ftree"
	"almonry/mlog"
	"almonry/tag"
)

// word tells a hash as the console does.
func word(h api.Hash) string {
	return hex.EncodeToString(h[:])
}

// object is layer 11's hash.
func object(data string) string {
	h, _ := tag.Sum(api.TagObject, data)
	return word(h)
}

// file is layer 12's root.
func file(data string) string {
	h, _, _ := ftree.Build(data)
	return word(h)
}

// told are lines, and what each tells.
func told() [][2]string {
	byte4096, byte4097 := strings.Repeat("6f", 4096), strings.Repeat("6f", 4097)
	return [][2]string{
		{"sha 616263", "ba7816bf8f01cfea414140de5dae2223b00361a396177a9cb410ff61f20015ad"},
		{"sha -", "e3b0c44298fc1c149afbf4c8996fb92427ae41e4649b934ca495991b7852b855"},
		{"sha 00ff", word(sha256.Sum256([]byte("\x00\xff")))},
		{"  sha\t \t61  ", word(sha256.Sum256([]byte("a")))},
		{"object 6162", object("ab")},
		{"object -", object("")},
		{"object " + byte4096, object(strings.Repeat("o", 4096))},
		{"object " + byte4097, "error 1100"},
		{"leaf 00", word(mlog.Leaf("\x00"))},
		{"leaf -", word(mlog.Leaf(""))},
		{"root", word(mlog.Root(nil))},
		{"root -", word(mlog.Root([]string{""}))},
		{"root 61 - 6263", word(mlog.Root([]string{"a", "", "bc"}))},
		{"root" + strings.Repeat(" 0a", 300), word(mlog.Root(strings.Split(strings.Repeat("\n,", 299)+"\n", ",")))},
		{"file -", file("")},
		{"file 68656c6c6f", file("hello")},
		{"file " + byte4096, file(strings.Repeat("o", 4096))},
		{"file " + byte4097, "error 1200"},
		{"split /", ""},
		{"split /a", "a"},
		{"split /a/b.c/d", "a b.c d"},
		{"split /\xff/\x01", "\xff \x01"},
		{"split a", "error 1600"},
		{"split /a/", "error 1600"},
		{"split //", "error 1600"},
		{"split -", "error 1600"},
		{"split /" + strings.Repeat("x", 25), "error 1600"},
		{"split /\u00a0/\r", "\u00a0 \r"},
	}
}

// wrong are lines that are none.
func wrong() []string {
	return []string{
		"other", "SHA 61", "sha", "sha 61 62", "sha 6", "sha 616", "sha 6G", "sha 6g", "sha 6A", "sha --", "sha -61", "sha 61-", "sha 0x61", "sha \xff\xff",
		"object", "object 61 61", "object x", "leaf", "leaf - -", "leaf zz", "root 6", "root 61 6", "root 61 q 61", "file", "file 61 62", "file 1",
		"split", "split /a /b", "sha61", "sha\v61", "sha 61\r", "-", "61", "root# 61", "sha #", "sha 61 # remark", "\x00", "split /a # remark",
	}
}

// run runs a script that must be told.
func run(t *testing.T, script string) string {
	t.Helper()
	s, e := console.Run(script)
	if e != api.OK {
		t.Fatalf("error %d", e)
	}
	return s
}

// P27.1: what each command tells.
func TestCommands(t *testing.T) {
	for _, x := range told() {
		want := x[1] + "\n"
		if got := run(t, x[0]); got != want {
			t.Errorf("%.40q: %.80q, not %.80q", x[0], got, want)
		}
		if got := run(t, x[0]+"\n"); got != want {
			t.Errorf("%.40q, a line end behind it: %.80q", x[0], got)
		}
	}
	for _, line := range wrong() {
		if got := run(t, line); got != "error 2700\n" {
			t.Errorf("%q: %q", line, got)
		}
	}
}

// P27.1: lines that say nothing.
func TestSilentLines(t *testing.T) {
	for _, script := range []string{"", "\n", "\n\n\n", " ", "\t \t\n ", "#", "# sha 61", "  #sha 61\n", "#\n\t# x\n\n"} {
		if got := run(t, script); got != "" {
			t.Errorf("%q: %q", script, got)
		}
	}
	if got := run(t, "\n# remark\nsha -\n\n \nsplit /\n#"); got != word(sha256.Sum256(nil))+"\n\n" {
		t.Errorf("%q", got)
	}
}

// P27.1: scripts of MaxText bytes, and of one more.
func TestLongScripts(t *testing.T) {
	full := strings.Repeat("root\n", api.MaxText/5) + "\n"
	if got := run(t, full); len(full) != api.MaxText || got != strings.Repeat(word(sha256.Sum256(nil))+"\n", api.MaxText/5) {
		t.Errorf("%d bytes", len(got))
	}
	for _, script := range []string{full + "\n", strings.Repeat("#", api.MaxText+1), strings.Repeat("x", 200000)} {
		if got, e := console.Run(script); got != "" || e != api.ErrConsoleLong {
			t.Errorf("%d bytes: error %d", len(script), e)
		}
	}
	if got := run(t, "sha "+strings.Repeat("61", (api.MaxText-4)/2)); got != word(sha256.Sum256([]byte(strings.Repeat("a", (api.MaxText-4)/2))))+"\n" {
		t.Errorf("%q", got)
	}
}

// P27.2: of a beginning of lines the text is a beginning of the text.
func TestBeginnings(t *testing.T) {
	script, want := "", ""
	lines := []string{"", "# x"}
	for _, x := range told() {
		if len(x[0]) < 1000 {
			lines = append(lines, x[0])
		}
	}
	lines = append(lines, wrong()...)
	for _, line := range lines {
		before := want
		script += line + "\n"
		want = run(t, script)
		if one := run(t, line); want != before+one {
			t.Errorf("%.40q tells %q, %q behind others", line, one, strings.TrimPrefix(want, before))
		}
	}
}
