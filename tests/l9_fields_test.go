package tests

import (
	"fmt"
	"strings"
	"testing"

	"loop.example/s02098/impl"
)

// scene has everything: files, a store with a pin and an open transaction, a finished stream, and a backup of which the head is told.
const scene = "disk 99\nold f 5 x=1\ncreate db 7\nbegin\nput a 1\ncommit\npin\nbackup 1 0\nstep 9\nbegin\nput b 2\nbackup 1 0\nstep 1"

// inquiry brings to light whatever was changed in the scene, the fuel and the cache included.
const inquiry = "scan txn\nscan 0\nscan 1\nstep 1\ncommit\nread db\nopen db\nread f\nrestore r\nread r\nforget\nrestore s\nstep 0\npower 3\ncompact db q\ncrash 11 - 0\nread tmp\nopen tmp\nread db"

func TestTheScene(t *testing.T) {
	wantTalk(t, "the scene", `disk 99 > ok; old f 5 x=1 > ok; create db 7 > ok; begin > ok; put a 1 > ok; commit > ok; pin > ok 1; backup 1 0 > backup 1; step 9 > told 164
		begin > ok; put b 2 > ok; backup 1 0 > backup 1; step 1 > told 22
		scan txn > pairs a=1 b=2; scan 0 > pairs a=1; scan 1 > pairs a=1; step 1 > told 137; commit > ok
		read db > version 2 a=1 b=2; open db > ok; read f > version 1 x=1; restore r > 0; read r > version 2 a=1; forget > ok; restore s > 7; step 0 > told 0
		power 3 > ok; compact db q > 11; crash 11 - 0 > ok; read tmp > version 0; open tmp > tree; read db > version 2 a=1 b=2`)
}

// wantWrong asks for "bad", and that the line has changed nothing.
func wantWrong(t *testing.T, line string) {
	t.Helper()
	script := scene + "\n" + inquiry
	want := told(t, script)
	at := strings.Count(scene, "\n") + 1
	want = append(append(want[:at:at], "bad"), want[at:]...)
	wantScript(t, fmt.Sprintf("%q", line), scene+"\n"+line+"\n"+inquiry, want)
}

func wantInScene(t *testing.T, line, want string) {
	t.Helper()
	if got := toldLast(t, scene, line); got != want {
		t.Errorf("%q: %q, want %q", line, got, want)
	}
}

// sceneRows are lines as said and their answers in the scene. The last field of a free one may have any byte.
var sceneRows = []struct {
	line, answer string
	free         bool
}{
	{"disk 5", "ok", false}, {"power 5", "ok", false}, {"crash 01 - 3", "ok", false}, {"crash - 2 0", "ok", false},
	{"create q 9", "ok", false}, {"open db", "ok", false}, {"begin", "busy", false}, {"commit", "ok", false}, {"rollback", "ok", false},
	{"put k v", "ok", true}, {"del a", "ok", true}, {"unpin 1", "ok", false}, {"pin", "ok 2", false},
	{"scan txn", "pairs a=1 b=2", false}, {"scan 0", "pairs a=1", false}, {"scan 1", "pairs a=1", false}, {"backup 1 0", "backup 1", false}, {"step 1", "told 137", false},
	{"restore q", "0", false}, {"compact db q", "0", false}, {"forget", "ok", false}, {"old q 5", "ok", false}, {"old q 5 k=v", "ok", true}, {"old q 5 k=v l=", "ok", true},
	{"migrate f", "ok", false}, {"read f", "version 1 x=1", false},
}

func TestCommandsAsSaid(t *testing.T) {
	for _, row := range sceneRows {
		wantInScene(t, row.line, row.answer)
	}
}

// withField is the line with another field at its place.
func withField(fields []string, at int, field ...string) string {
	out := append(append([]string{}, fields[:at]...), field...)
	return strings.Join(append(out, fields[at+1:]...), " ")
}

func TestFieldsTooManyTooFewOrEmpty(t *testing.T) {
	for _, row := range sceneRows {
		fields := strings.Split(row.line, " ")
		wrong := []string{" " + row.line, row.line + " ", "  " + row.line, row.line + "  ", "\t" + row.line, row.line + " x", row.line + " 0", row.line + " -"}
		if !row.free {
			wrong = append(wrong, row.line+"\t", row.line+"\r", row.line+"\x00", row.line+"\xff")
		}
		for at := range fields {
			wrong = append(wrong, withField(fields, at, ""), withField(fields, at, fields[at], ""))
			if !row.free {
				wrong = append(wrong, withField(fields, at, "\t"))
			}
			// A pair is missed by nobody, and two of them may be one.
			if at < 3 {
				wrong = append(wrong, withField(fields, at))
			}
			if at > 0 && at < 4 {
				wrong = append(wrong, strings.Join(fields[:at], " ")+"\t"+strings.Join(fields[at:], " "), strings.Join(fields[:at], " ")+strings.Join(fields[at:], " "))
			}
		}
		word := fields[0]
		for _, other := range []string{strings.ToUpper(word), strings.ToUpper(word[:1]) + word[1:], word[1:], word[:len(word)-1], word + "x", "x" + word, word + "s", "\x00" + word, "foo"} {
			wrong = append(wrong, withField(fields, 0, other))
		}
		for _, line := range wrong {
			wantWrong(t, line)
		}
	}
	for _, line := range []string{"", " ", "  ", "foo", "0", "ok", "none", "help", "quit", "#", "disk5", "txn", "scan", "Scan 0", "get a", "sync", "crashed - - 0", "diskette 5", "\x00", "\xff", "é"} {
		wantWrong(t, line)
	}
}

// Slots have a # where the field in question goes.

func filling(slot, field string) string { return strings.Replace(slot, "#", field, 1) }

var numberSlots = []string{"disk #", "power #", "crash 1 - #", "crash 1 # 0", "crash 1 # #", "create q #", "unpin #", "scan #", "backup # 0", "backup 1 #", "step #", "old q #", "old q # k=v"}

func TestNumbersThatAreNone(t *testing.T) {
	for _, slot := range numberSlots {
		for _, num := range []string{"", "00", "01", "007", "0000000", "12345678", "10000000", "00000001", "99999999999999999999", "18446744073709551617", "+1", "-1", "+0", "-0", "1a", "a1", "x", "0x1", "0b1", "0o1", "1_0", "1.", "1.0", ".1", "1e1", "1e", "'1", "１", "٣", "1\x00", "\x001", "1\t", "\t1", "1\r", "--", "- 1", "1 1", " 1", "1 "} {
			wantWrong(t, filling(slot, num))
		}
	}
}

func TestNumbersAtTheirEnds(t *testing.T) {
	for _, row := range [][2]string{
		{"disk 0", "ok"}, {"disk 1", "ok"}, {"disk 999", "ok"}, {"disk 1000", "ok"}, {"disk 1001", "bad"}, {"disk 9999999", "bad"},
		{"power 0", "ok"}, {"power 1", "ok"}, {"power 999999", "ok"}, {"power 1000000", "ok"}, {"power 1000001", "bad"}, {"power 9999999", "bad"},
		{"crash - - 0", "ok"}, {"crash - - 128", "ok"}, {"crash - - 9999999", "ok"}, {"crash - 0 9999999", "ok"}, {"crash - 9999999 0", "ok"}, {"crash 1 1000000 1000000", "ok"},
		{"create q 0", "bad"}, {"create q 1", "ok"}, {"create q 1000000", "ok"}, {"create q 9999999", "ok"},
		{"unpin 0", "pin"}, {"unpin 1", "ok"}, {"unpin 2", "pin"}, {"unpin 9999999", "pin"},
		{"scan 0", "pairs a=1"}, {"scan 1", "pairs a=1"}, {"scan 2", "none"}, {"scan 9999999", "none"},
		{"backup 0 0", "error 2"}, {"backup 1 0", "backup 1"}, {"backup 2 0", "error 2"}, {"backup 9999999 9999999", "error 2"}, {"backup 1 1", "backup 1"}, {"backup 1 2", "error 3"}, {"backup 1 9999999", "error 3"},
		{"step 0", "told 0"}, {"step 1", "told 137"}, {"step 2", "told 142"}, {"step 3", "told 142"}, {"step 9999999", "told 142"},
		{"old q 0", "bad"}, {"old q 1", "ok"}, {"old q 9999999", "ok"}, {"old q 0 k=v", "bad"}, {"old q 9999999 k=v", "ok"},
	} {
		wantInScene(t, row[0], row[1])
	}
	// What a number of seven digits does is done, and nothing else.
	wantTalk(t, "an Id of seven digits", "disk 9 > ok; create a 9999999 > ok; pin > ok 1; backup 1 0 > backup 1; step 9 > told 164; restore b > 0; read b > version 2")
}

// The Id of create and of old goes into the file: a chain of two Ids is none.
func TestIdsOfFiles(t *testing.T) {
	for _, id := range []string{"7", "8", "1", "9999999", "1234567"} {
		want := "7"
		if id == "7" {
			want = "0"
		}
		script := "disk 99\ncreate a 7\nbegin\nput a 1\ncommit\npin\nbackup 1 0\nstep 9\nold b " + id + " a=1\nmigrate b\nopen b\nbegin\nput b 2\ncommit\nbegin\nput c 3\ncommit\npin\nbackup 1 2\nstep 9\nrestore c"
		if got := toldLast(t, script); got != want {
			t.Errorf("a chain of the Ids 7 and %s of old: %s, want %s", id, got, want)
		}
		script = "disk 99\ncreate a 7\nbegin\nput a 1\ncommit\npin\nbackup 1 0\nstep 9\ncreate b " + id + "\nbegin\nput b 2\ncommit\nbegin\nput c 3\ncommit\npin\nbackup 1 2\nstep 9\nrestore c"
		if got := toldLast(t, script); got != want {
			t.Errorf("a chain of the Ids 7 and %s of create: %s, want %s", id, got, want)
		}
	}
}

func TestNamesInScripts(t *testing.T) {
	slots := []string{"create # 9", "open #", "restore #", "compact # q", "compact db #", "old # 5", "old # 5 k=v", "migrate #", "read #"}
	for _, slot := range slots {
		for _, name := range append(noNames, "0", "-", "db.", "dB", "d-b", "db\t", "\tdb", "db\r", "db=", "abcdefghij") {
			wantWrong(t, filling(slot, name))
		}
	}
	for _, name := range []string{"a", "z", "az", "abcdefgh", "zzzzzzzz", "new", "log", "disk", "crash", "txn"} {
		wantTalk(t, name, fmt.Sprintf("disk 40 > ok; create %[1]s 7 > ok; open %[1]s > ok; begin > ok; put k v > ok; commit > ok; read %[1]s > version 2 k=v; compact %[1]s %[1]s > 0; read %[1]s > version 2 k=v; create %[1]s 7 > bad", name))
		wantTalk(t, name+", old", fmt.Sprintf("disk 40 > ok; old %[1]s 7 k=v > ok; read %[1]s > version 1 k=v; open %[1]s > meta", name))
		wantTalk(t, name+", restored", fmt.Sprintf("disk 40 > ok; create db 7 > ok; pin > ok 1; backup 1 0 > backup 1; step 3 > told 164; restore %[1]s > 0; read %[1]s > version 2", name))
	}
	// A name that the chapter before does not take is as said nevertheless.
	wantTalk(t, "tmp", "disk 40 > ok; create db 7 > ok; restore tmp > 9; begin > none; create tmp 7 > ok; compact db tmp > 9; begin > none; compact tmp db > 9; old a 1 > ok; migrate new > bad; migrate log > bad; migrate tmp > ok; read tmp > version 2")
}

func TestBitsAndTears(t *testing.T) {
	for _, bits := range []string{"", "2", "012", "01a", "--", "-1", "1-", "0-1", "x", "O", "l", "１", "\x00", "+1", "1,0", "1\t0", "\xff", "true"} {
		wantWrong(t, "crash "+bits+" - 0")
		wantWrong(t, "crash "+bits+" 0 0")
	}
	for _, tear := range []string{"--", "-1", "-0", "txn", "+", "_", "–", "-\t"} {
		wantWrong(t, "crash 1 "+tear+" 0")
	}
	for _, line := range []string{"crash", "crash ", "crash -", "crash - -", "crash - - ", "crash - - -", "crash - - 0 0", "crash 1 0", "crash 0 0 0 0", "crash 0 1 - 0"} {
		wantWrong(t, line)
	}
	for _, bits := range []string{"-", "0", "1", "01", "10", "0000000", strings.Repeat("10", 2000)} {
		for _, tear := range []string{"-", "0", "1", "17", "9999999"} {
			wantInScene(t, "crash "+bits+" "+tear+" 5", "ok")
		}
	}
	for _, what := range []string{"-", "-1", "Txn", "TXN", "txns", "tx", "xtxn", "txn\t", "txn txn", "txn 0", "0 txn", ""} {
		wantWrong(t, "scan "+what)
	}
}

func TestPairsInScripts(t *testing.T) {
	for _, pair := range []string{"k", "=", "=v", "==", "=k=v", "", " k=v", "k=v ", "k =v", "k= v", "k", "k:v", "k\t"} {
		wantWrong(t, "old q 5 "+pair)
		wantWrong(t, "old q 5 a=1 "+pair)
		wantWrong(t, "old q 5 "+pair+" z=1")
	}
	for _, row := range [][2]string{
		{"", ""}, {" k=v", " k=v"}, {" k=", " k="}, {" k=v=w", " k=v=w"}, {" k==", " k=="}, {" k==v", " k==v"}, {" k====", " k===="}, {" a= b= c=", " a= b= c="}, {" a=b=c b=", " a=b=c b="},
		{" \x00=\xff \xff=\x00", " \x00=\xff \xff=\x00"}, {" a=" + strings.Repeat("=", 400), " a=" + strings.Repeat("=", 400)}, {" abcdefgh=1", " abcdefgh=1"}, {" a\tb=c\td", " a\tb=c\td"},
	} {
		want := []string{"ok", "ok", "version 1" + row[1], "ok", "version 2" + row[1], "ok", "pairs" + row[1]}
		wantScript(t, "old pairs", "disk 40\nold q 5"+row[0]+"\nread q\nmigrate q\nread q\nopen q\nscan 0", want)
	}
	// These are as said, and not what WriteOld takes.
	for _, pairs := range []string{"b=1 a=2", "a=1 a=2", "abcdefghi=1", "a=" + strings.Repeat("v", 401)} {
		wantScript(t, pairs, scene+"\nold q 5 "+pairs+"\nscan 0\nread q\nread f", append(told(t, scene), "bad", "none", "version 0", "version 1 x=1"))
	}
}

// A key and a value may have every byte but the space; the newline ends the line.
func TestEveryByteInKeysAndValues(t *testing.T) {
	for b := range 256 {
		if b == ' ' || b == '\n' {
			continue
		}
		c := string([]byte{byte(b)})
		lines := []string{"disk 40", "create db 7", "begin", "put " + c + " " + c, "put k" + c + c + " v" + c + "v", "commit", "scan 0", "begin", "del " + c, "scan txn", "read db"}
		pairs := []string{" " + c + "=" + c, " k" + c + c + "=v" + c + "v"}
		if c > "k" {
			pairs[0], pairs[1] = pairs[1], pairs[0]
		}
		both := strings.Join(pairs, "")
		want := []string{"ok", "ok", "ok", "ok", "ok", "ok", "pairs" + both, "ok", "ok", "pairs k" + c + c + "=v" + c + "v", "version 2" + both}
		wantScript(t, fmt.Sprintf("the byte %q", c), strings.Join(lines, "\n"), want)
		if b == '=' {
			continue
		}
		want = []string{"ok", "ok", "version 1 " + c + "=" + c + " " + c + c + "="}
		wantScript(t, fmt.Sprintf("the byte %q in an old file", c), "disk 40\nold f 5 "+c+"="+c+" "+c+c+"=\nread f", want)
	}
}

func TestKeysAndValuesAtTheirEnds(t *testing.T) {
	key, val := strings.Repeat("k", impl.KeyMax), strings.Repeat("v", impl.ValMax)
	for _, row := range [][2]string{
		{"put " + key + " v", "ok"}, {"put " + key + "k v", "key"}, {"put k " + val, "ok"}, {"put k " + val + "v", "val"}, {"put " + key + "k " + val + "v", "key"},
		{"put k 12345678", "ok"}, {"put k 123456789", "ok"}, {"del " + key, "ok"}, {"del " + key + "k", "key"}, {"del nobody", "ok"}, {"del a", "ok"},
	} {
		wantInScene(t, row[0], row[1])
		if got := toldLast(t, scene, "rollback", row[0]); got != "txn" {
			t.Errorf("%.20q without a transaction: %q", row[0], got)
		}
	}
	wantScript(t, "a long value", scene+"\nput k "+val+"\ncommit\nscan 0", append(told(t, scene), "ok", "ok", "pairs a=1 b=2 k="+val))
	wantWrong(t, "put k")
	wantWrong(t, "put  v")
	wantWrong(t, "put k ")
	wantWrong(t, "put k v w")
	wantWrong(t, "del ")
	wantWrong(t, "del a b")
}
