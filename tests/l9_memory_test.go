package tests

import (
	"bytes"
	"strings"
	"testing"

	"loop.example/s02098/impl"
)

func TestScriptMemory(t *testing.T) {
	texts := []string{"", "\n", "begin", "disk 40", "disk 40\n", scene, scene + "\n" + inquiry, cut, six + "\nscan 0\nscan 1\nread a\n", strings.Repeat("\n", impl.ScriptMax), strings.Repeat("x", impl.ScriptMax+1)}
	for seed := range int64(20) {
		texts = append(texts, newDice(seed).script(40))
	}
	for _, text := range texts {
		callCleanly(t, text[:min(len(text), 40)], impl.RunScript, []byte(text))
	}
}

// Nothing is kept from one script to the next.
func TestScriptsAreApart(t *testing.T) {
	text := []byte(scene + "\n" + inquiry)
	first := impl.RunScript(text)
	want := bytes.Clone(first)
	for i := range first {
		first[i] = 'x'
	}
	for _, other := range []string{"disk 9\ncreate db 8\npin", cut, "", "disk 1000"} {
		impl.RunScript([]byte(other))
		if got := impl.RunScript(text); !bytes.Equal(got, want) {
			t.Errorf("behind %.20q: %q, want %q", other, got, want)
		}
	}
	if got := string(impl.RunScript([]byte("scan 0\nstep 1\nrestore x"))); got != "none\nnone\nnone\n" {
		t.Errorf("a script with no disk of its own: %q", got)
	}
	long := impl.RunScript(make([]byte, impl.ScriptMax+1))
	long[0] = 'x'
	if got := string(impl.RunScript(make([]byte, impl.ScriptMax+1))); got != "long\n" {
		t.Errorf("the next long script: %q", got)
	}
	// An answer stands when the text is gone.
	answer := impl.RunScript(text)
	clear(text)
	if !bytes.Equal(answer, want) {
		t.Errorf("the answer when the text is gone: %q", answer)
	}
}
