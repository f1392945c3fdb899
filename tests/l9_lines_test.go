package tests

import (
	"bytes"
	"strings"
	"testing"

	"loop.example/s02098/impl"
)

// wantAnswered asks for one line of answer for each line.
func wantAnswered(t *testing.T, what string, text []byte) {
	t.Helper()
	lines := bytes.Count(text, []byte("\n"))
	if len(text) > 0 && text[len(text)-1] != '\n' {
		lines++
	}
	got := impl.RunScript(text)
	if bytes.Count(got, []byte("\n")) != lines || lines > 0 && got[len(got)-1] != '\n' || lines == 0 && len(got) > 0 {
		t.Errorf("%s: %d lines are answered by %q\n%q", what, lines, got, text)
	}
}

func TestEmptyScripts(t *testing.T) {
	for _, text := range [][]byte{nil, {}} {
		if got := impl.RunScript(text); len(got) > 0 {
			t.Errorf("no line: %q", got)
		}
	}
	for n := range 5 {
		wantScript(t, "empty lines", strings.Repeat("\n", n), strings.Fields(strings.Repeat("none ", n)))
		wantScript(t, "empty lines on a disk", "disk 9\n"+strings.Repeat("\n", n), strings.Fields("ok "+strings.Repeat("bad ", n)))
		wantScript(t, "empty lines on a dead disk", "disk 9\npower 0\ncreate a 1\n"+strings.Repeat("\n", n), strings.Fields("ok ok lost "+strings.Repeat("lost ", n)))
	}
}

// A last line without a newline is one; a newline behind the last line begins none.
func TestTheLastLine(t *testing.T) {
	for _, row := range []struct{ script, want string }{
		{"begin", "none\n"}, {"begin\n", "none\n"}, {"begin\n\n", "none\nnone\n"}, {"\nbegin", "none\nnone\n"},
		{"disk 9", "ok\n"}, {"disk 9\n", "ok\n"}, {"disk 9\n ", "ok\nbad\n"}, {"disk 9\n\n\npin", "ok\nbad\nbad\nnone\n"},
		{"disk 9\r\npin\r\n", "bad\nnone\n"}, {"disk 9\npin\r\n", "ok\nbad\n"}, {"\x00", "none\n"}, {"\xff\n\x80", "none\nnone\n"}, {" ", "none\n"},
	} {
		if got := string(impl.RunScript([]byte(row.script))); got != row.want {
			t.Errorf("%q: %q, want %q", row.script, got, row.want)
		}
	}
}

// filled is a script with lines of the same kind behind it, up to so many bytes.
func filled(script, line string, size int) string {
	out := script + strings.Repeat(line+"\n", (size-len(script))/(len(line)+1))
	return out + strings.Repeat("\n", size-len(out))
}

func TestLongScripts(t *testing.T) {
	store := "disk 99\ncreate db 7\nbegin\nput a 1\n"
	texts := map[string]string{
		"newlines":         strings.Repeat("\n", impl.ScriptMax),
		"one line":         strings.Repeat("x", impl.ScriptMax),
		"one line of disk": "disk " + strings.Repeat("0", impl.ScriptMax-5),
		"a long value":     store + "put b " + strings.Repeat("v", impl.ScriptMax-len(store)-6),
		"a long key":       store + "put " + strings.Repeat("k", impl.ScriptMax-len(store)-6) + " v",
		"a long name":      store + "open " + strings.Repeat("n", impl.ScriptMax-len(store)-5),
		"many bits":        store + "crash " + strings.Repeat("1", impl.ScriptMax-len(store)-10) + " - 0",
		"many fields":      store + "old x 1" + strings.Repeat(" ", impl.ScriptMax-len(store)-7),
		"many disks":       filled("", "disk 9", impl.ScriptMax),
		"many scans":       filled(store, "scan txn", impl.ScriptMax),
		"zeros":            string(make([]byte, impl.ScriptMax)),
	}
	for what, text := range texts {
		if len(text) != impl.ScriptMax {
			t.Fatalf("%s: the test's text has %d bytes", what, len(text))
		}
		wantScript(t, what, text, modelScript(text))
		wantAnswered(t, what, []byte(text))
		for _, more := range []string{"\n", "x", " ", "\x00", strings.Repeat("x\n", 9999)} {
			if got := string(impl.RunScript([]byte(text + more))); got != "long\n" {
				t.Errorf("%s and %d bytes more: %.40q", what, len(more), got)
			}
		}
		if got := string(impl.RunScript([]byte("\n" + text))); got != "long\n" {
			t.Errorf("%s behind a newline: %.40q", what, got)
		}
	}
	for what, want := range map[string]string{
		"one line": "none", "one line of disk": "bad", "a long value": "val", "a long key": "key", "a long name": "bad", "many bits": "ok", "many fields": "bad", "zeros": "none",
	} {
		got := told(t, texts[what])
		if last := got[len(got)-1]; last != want {
			t.Errorf("%s: %q, want %q", what, last, want)
		}
	}
}

// What stands behind a line changes nothing in the answers ahead of it.
func TestLinesAreAnsweredInTurn(t *testing.T) {
	for seed := range int64(12) {
		r := newDice(seed)
		script := r.script(60)
		whole := impl.RunScript([]byte(script))
		for end := 0; end < len(script); end++ {
			if script[end] != '\n' || r.Intn(4) > 0 {
				continue
			}
			for _, part := range []string{script[:end], script[:end+1]} {
				if got := impl.RunScript([]byte(part)); !bytes.HasPrefix(whole, got) {
					t.Fatalf("seed %d: the first %d bytes are answered otherwise", seed, len(part))
				}
				wantAnswered(t, "a piece", []byte(part))
			}
		}
	}
}
