package tests

import (
	"fmt"
	"strings"
	"testing"
)

// cut is the scene behind the loss of its power.
const cut = scene + "\npower 0\ncommit"

// bareRows are the answers of lines as said on a disk with nothing on it.
var bareRows = [][2]string{
	{"disk 5", "ok"}, {"power 5", "ok"}, {"crash - - 0", "ok"}, {"create q 9", "ok"}, {"open q", "meta"},
	{"begin", "none"}, {"commit", "none"}, {"rollback", "none"}, {"put k v", "none"}, {"del k", "none"}, {"unpin 1", "none"}, {"pin", "none"},
	{"scan txn", "none"}, {"scan 0", "none"}, {"scan 1", "none"}, {"backup 1 0", "none"}, {"step 1", "none"}, {"step 0", "none"},
	{"restore q", "7"}, {"compact p q", "8"}, {"forget", "ok"}, {"old q 5", "ok"}, {"old q 5 k=v", "ok"}, {"migrate q", "bad"}, {"read q", "version 0"},
}

func TestLinesOnABareDisk(t *testing.T) {
	for _, row := range bareRows {
		if got := toldLast(t, "disk 9", row[0]); got != row[1] {
			t.Errorf("%q: %q, want %q", row[0], got, row[1])
		}
	}
}

// spoiltLines are wrong in their fields alone: the word is the command's.
func spoiltLines(line string) []string {
	word, _, more := strings.Cut(line, " ")
	out := []string{line + " ", line + " x", line + "  x", word + " ", word + "  ", word + " \x00 x y", strings.Replace(line, " ", "  ", 1) + " "}
	if more {
		out = append(out, word)
	}
	return out
}

// noCommands are lines whose first word is none, also where they look like one.
var noCommands = []string{"", " ", "foo", "foo 1", "DISK 5", "Disk 5", " disk 5", "\tdisk 5", "disk\t5", "disk5", "disks 5", "disc 5", "CRASH - - 0", " crash - - 0", "crash\t- - 0", "crash-", "crashes - - 0", "\x00", "none", "lost", "begi", "x disk 5", "x crash - - 0"}

// What is answered to lines as said, to lines whose fields are wrong and to words that are none, where disk and crash are not meant.
func wantOrder9(t *testing.T, what, before string, said func(line, bare string) string, spoilt func(word string) string, other string) {
	t.Helper()
	for _, row := range bareRows {
		if got := toldLast(t, before, row[0]); got != said(row[0], row[1]) {
			t.Errorf("%s: %q: %q, want %q", what, row[0], got, said(row[0], row[1]))
		}
		word, _, _ := strings.Cut(row[0], " ")
		for _, line := range spoiltLines(row[0]) {
			if got := toldLast(t, before, line); got != spoilt(word) {
				t.Errorf("%s: %q: %q, want %q", what, line, got, spoilt(word))
			}
		}
	}
	for _, line := range noCommands {
		if got := toldLast(t, before, line); got != other {
			t.Errorf("%s: %q: %q, want %q", what, line, got, other)
		}
	}
}

func TestNoneGoesBefore(t *testing.T) {
	only := func(word, answer string) func(line string) string {
		return func(line string) string {
			if first, _, _ := strings.Cut(line, " "); first == word {
				return answer
			}
			return "none"
		}
	}
	for _, before := range []string{"foo", "disk", "disk 1001", "disk 5 5", "crash - - 0", "begin\nfoo"} {
		wantOrder9(t, "no disk behind "+before, before, func(line, _ string) string { return only("disk", "ok")(line) }, only("disk", "bad"), "none")
	}
}

func TestLostGoesBefore(t *testing.T) {
	crashOr := func(answer string) func(line string) string {
		return func(line string) string {
			if word, _, _ := strings.Cut(line, " "); word == "disk" || word == "crash" {
				return answer
			}
			return "lost"
		}
	}
	for what, before := range map[string]string{
		"a commit": cut, "a creation": "disk 9\npower 2\ncreate a 7", "an old file": "disk 9\npower 0\nold a 7", "a restore": scene + "\npower 2\nrestore z", "a compact copy": scene + "\npower 0\ncompact db z",
		"a conversion": scene + "\npower 1\nmigrate f", "lines that are wrong": cut + "\nfoo\ncrash\ndisk\ncrash -\ndisk 1001",
	} {
		if got := toldLast(t, before, "begin"); got != "lost" {
			t.Errorf("%s: the power is not lost: %q", what, got)
		}
		wantOrder9(t, what, before, func(line, _ string) string { return crashOr("ok")(line) }, crashOr("bad"), "lost")
	}
}

func TestBadComesLast(t *testing.T) {
	bad := func(string) string { return "bad" }
	wantOrder9(t, "a bare disk", "disk 9", func(_, bare string) string { return bare }, bad, "bad")
	// Neither a store nor a backup has to be there for a wrong line to be bad.
	for _, before := range []string{"disk 9", "disk 9\ncreate a 7", scene, scene + "\nread f", scene + "\ncrash - - 0", scene + "\nstep 9"} {
		for _, row := range sceneRows {
			if row.free {
				continue
			}
			for _, line := range spoiltLines(row.line) {
				if got := toldLast(t, before, line); got != "bad" {
					t.Errorf("%q behind %q: %q", line, before, got)
				}
			}
		}
	}
}

// The talks of the three together: what was none or lost before is as it should be behind the line that ends it.
func TestFromNoneToLostAndBack(t *testing.T) {
	wantTalk(t, "without a disk", "begin > none; crash > none; crash - - 0 > none; crash x - 0 > none; disk > bad; disk x > bad; disk 1001 > bad; foo > none; disk 20 > ok; foo > bad; crash > bad; begin > none; create a 7 > ok; begin > ok")
	wantTalk(t, "dead", `disk 20 > ok; power 5 > ok; create a 7 > lost; create a 7 > lost; create A > lost; foo > lost; begin > lost; scan 0 > lost; read a > lost; forget > lost; forget x > lost; power 9 > lost; power 0000 > lost; step 0 > lost
		disk x > bad; disk 5 5 > bad; disk 1001 > bad; crash > bad; crash - - > bad; crash 2 - 0 > bad; begin > lost
		crash 111 - 0 > ok; foo > bad; begin > none; open a > ok; read a > version 2; create a 7 > bad; create b 7 > ok`)
	wantTalk(t, "a new disk for a dead one", "disk 20 > ok; create a 7 > ok; power 0 > ok; begin > ok; commit > lost; disk 9 > ok; read a > version 0; begin > none; create a 7 > ok; begin > ok; commit > ok")
}

func TestDeadDisksStayDead(t *testing.T) {
	for i, row := range sceneRows {
		if strings.HasPrefix(row.line, "disk ") || strings.HasPrefix(row.line, "crash ") {
			continue
		}
		script := cut + "\n" + row.line + "\nbegin\ncrash - - 0\nread db\nread f\nrestore r\nread r"
		want := append(told(t, cut), "lost", "lost", "ok", "version 2 a=1", "version 1 x=1", "0", "version 2 a=1")
		wantScript(t, fmt.Sprint("row ", i, ": ", row.line), script, want)
	}
}
