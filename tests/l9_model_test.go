package tests

import (
	"fmt"
	"strings"
	"testing"

	"loop.example/s02098/impl"
)

func (r dice) among(words ...string) string { return words[r.Intn(len(words))] }

func (r dice) file() string {
	return r.among("a", "a", "a", "b", "b", "c", "tmp", "new", "log", "abcdefgh")
}

func (r dice) small() string {
	return r.among("0", "1", "1", "1", "2", "2", "3", "4", "5", "7", "9", "12", "20", "99", "400", "9999999")
}

func (r dice) field() string {
	switch r.Intn(12) {
	case 0:
		return strings.Repeat(r.among("k", "=", "\t", "\xff"), 1+r.Intn(9))
	case 1:
		return strings.ReplaceAll(strings.ReplaceAll(r.text(1, 4), " ", "_"), "\n", "_")
	}
	return string(rune('a' + r.Intn(12)))
}

func (r dice) worth() string {
	switch r.Intn(12) {
	case 0:
		return strings.Repeat("v", 380+r.Intn(30))
	case 1:
		return strings.Repeat(r.among("=", "v", "\x00"), 1+r.Intn(99))
	}
	return r.field()
}

func (r dice) keepBits() string {
	out := r.among("-", "1111111111111111111111111", "0", "")
	for out == "" || out != "-" && r.Intn(8) > 0 {
		out += r.among("0", "1", "1")
	}
	return out
}

func (r dice) oldLine() string {
	line := "old " + r.file() + " " + r.small()
	key := byte('a')
	for range r.Intn(9) {
		val := r.among("", "1", "v=w", strings.Repeat("x", r.Intn(200)))
		line += fmt.Sprintf(" %c=%s", key, val)
		key += byte(r.Intn(3) + 1)
		if r.Intn(40) == 0 {
			key = 'a'
		}
	}
	return line
}

// back is a line behind one that has closed the store.
func (r dice) back() string {
	return r.among("open a", "open a", "open "+r.file(), "read "+r.file(), "step 1")
}

// phrase is a few lines that belong together, most of them as said.
func (r dice) phrase() []string {
	switch r.Intn(16) {
	case 0:
		return []string{"create " + r.file() + " " + r.small()}
	case 1:
		return []string{"open " + r.file()}
	case 2, 3, 4:
		out := []string{"begin"}
		for range r.Intn(8) {
			if r.Intn(4) == 0 {
				out = append(out, "del "+r.field())
			} else {
				out = append(out, "put "+r.field()+" "+r.worth())
			}
		}
		return append(out, r.among("commit", "commit", "commit", "rollback", "scan txn"))
	case 5:
		return []string{r.among("pin", "unpin "+r.small(), "begin", "commit", "rollback", "put a 1", "del a")}
	case 6:
		return []string{"scan " + r.among("txn", "0", r.small())}
	case 7:
		return []string{"pin", "backup " + r.small() + " " + r.among("0", "0", r.small()), "step " + r.small()}
	case 8:
		return []string{"step " + r.small()}
	case 9:
		return []string{r.among("restore "+r.file(), "restore "+r.file(), "forget"), r.back()}
	case 10:
		return []string{"compact " + r.file() + " " + r.file(), r.back()}
	case 11:
		return []string{r.oldLine(), "read " + r.file(), r.back()}
	case 12:
		return []string{"migrate " + r.file(), "read " + r.file(), r.back()}
	case 13:
		// Enough for all pins, where there are some already.
		return strings.Split(strings.Repeat("pin\n", r.Intn(8))+"pin", "\n")
	case 14:
		// A file that was broken off may have a meta, and no tree.
		return []string{"power " + r.among("1", "2", "3", "4"), r.among("compact a b", "restore b"), "crash " + r.among("1", "11", "01", "111") + " - 0", "open tmp", r.back()}
	}
	// What loses the power is often the next phrase, so the crash comes a little later.
	out := append([]string{"power " + r.small()}, r.phrase()...)
	return append(out, r.among("begin", "scan 0", "foo", "crash 1"), "crash "+r.keepBits()+" "+r.among("-", "-", r.small())+" "+r.small(), "open "+r.file())
}

func (r dice) spoiltLine(line string) string {
	fields := strings.Split(line, " ")
	at := r.Intn(len(fields))
	switch r.Intn(8) {
	case 0:
		fields = append(fields, r.field())
	case 1:
		fields = fields[:len(fields)-1]
	case 2:
		fields[at] = ""
	case 3:
		fields[at] += r.among("0", "x", "-", "\x00", "A", " ", "\t", "é")
	case 4:
		fields[at] = r.among("0", "x", "-", "+", "+1", "-1", "00", "01", "12345678", "txn", "a", "a=b", "=", "disk", "crash")
	case 5:
		return r.among(" ", "\t", "") + line + r.among(" ", "\r", "  ")
	case 6:
		return strings.ReplaceAll(r.text(0, 12), "\n", "")
	default:
		return strings.ToUpper(line[:1]) + line[1:]
	}
	return strings.Join(fields, " ")
}

// script is a drawn one, of about so many lines; now and then there is no disk at first, a small one, or another one later.
func (r dice) script(lines int) string {
	var out []string
	if r.Intn(6) > 0 {
		out = append(out, "disk "+r.among("1000", "99", "40", "20", "12"), "create a 7")
	}
	for len(out) < lines {
		if r.Intn(60) == 0 {
			out = append(out, "disk "+r.small())
		}
		for _, line := range r.phrase() {
			if r.Intn(12) == 0 {
				out = append(out, r.spoiltLine(line))
			}
			if r.Intn(15) > 0 {
				out = append(out, line)
			}
		}
	}
	text := strings.Join(out, "\n") + r.among("\n", "")
	return text[:min(len(text), impl.ScriptMax)]
}

// wanted are answers that the drawn scripts must lead to, so that they are known to get everywhere.
const wanted = "ok bad busy txn key val full pins pin lost meta tree none pairs backup error told version 0 7 8 9 10 11"

func TestScriptsAreTheModel(t *testing.T) {
	met := map[string]int{}
	for seed := range int64(3000) {
		r := newDice(seed)
		script := r.script(10 + r.Intn(60))
		want := modelScript(script)
		wantScript(t, fmt.Sprint("seed ", seed), script, want)
		wantAnswered(t, fmt.Sprint("seed ", seed), []byte(script))
		for _, answer := range want {
			word, _, _ := strings.Cut(answer, " ")
			met[word]++
			if word == "error" || word == "version" {
				met[answer[:min(len(answer), len(word)+2)]]++
			}
		}
		if t.Failed() {
			return
		}
	}
	for _, word := range append(strings.Fields(wanted), "error 1", "error 2", "error 3", "version 0", "version 1", "version 2") {
		if met[word] < 5 {
			t.Errorf("%q is answered %d times: the scripts do not get there", word, met[word])
		}
	}
}

func TestScriptsOfNoise(t *testing.T) {
	for seed := range int64(300) {
		r := newDice(seed)
		text := []byte(r.script(10 + r.Intn(30)))
		for range r.Intn(12) {
			at := r.Intn(len(text))
			switch r.Intn(4) {
			case 0:
				text[at] = byte(r.Intn(256))
			case 1:
				text = append(text[:at:at], text[at+1:]...)
			case 2:
				text[at] = "\n 0=-a"[r.Intn(6)]
			case 3:
				text = append(text[:at:at], append([]byte{byte(r.Intn(256))}, text[at:]...)...)
			}
			if len(text) == 0 || len(text) > impl.ScriptMax {
				text = []byte("disk 9")
			}
		}
		wantScript(t, fmt.Sprint("changed bytes, seed ", seed), string(text), modelScript(string(text)))
		wantAnswered(t, fmt.Sprint("changed bytes, seed ", seed), text)
		noise := make([]byte, r.Intn(impl.ScriptMax+1))
		for i := range noise {
			noise[i] = byte(r.Intn(256))
			if r.Intn(3) == 0 {
				noise[i] = "\n disk 9"[r.Intn(8)]
			}
		}
		wantScript(t, fmt.Sprint("noise, seed ", seed), string(noise), modelScript(string(noise)))
		wantAnswered(t, fmt.Sprint("noise, seed ", seed), noise)
		if t.Failed() {
			return
		}
	}
}
