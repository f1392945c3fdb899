package tests

import (
	"fmt"
	"strings"
	"testing"
)

// What a line of the scene leaves: what is answered behind it to "scan 0", "scan txn", "step 1", "restore z" and "read db", each alone.
type leaving struct {
	line, answer                    string
	scan, txn, step, restored, read string
}

// kept is a line that changes nothing of these.
func kept(line, answer string) leaving {
	return leaving{line, answer, "pairs a=1", "pairs a=1 b=2", "told 137", "0", "version 2 a=1"}
}

// closed is a line behind which there is no store.
func closed(line, answer string) leaving {
	return leaving{line, answer, "none", "none", "error 1", "0", "version 2 a=1"}
}

var leavings = []leaving{
	{"disk 5", "ok", "none", "none", "none", "7", "version 0"},
	{"disk 0", "ok", "none", "none", "none", "7", "version 0"},
	kept("disk 1001", "bad"), kept("disk", "bad"), kept("disk 05", "bad"),
	kept("power 40", "ok"), kept("power 1000001", "bad"), kept("power x", "bad"),
	{"crash - - 0", "ok", "none", "none", "none", "0", "version 2 a=1"},
	{"crash 11 0 5", "ok", "none", "none", "none", "0", "version 2 a=1"},
	kept("crash", "bad"), kept("crash x - 0", "bad"),
	{"create q 9", "ok", "pairs", "none", "error 2", "0", "version 2 a=1"},
	closed("create db 9", "bad"), closed("create q 0", "bad"), closed("create f 9", "bad"), kept("create q 00", "bad"), kept("create Q 9", "bad"), kept("create q", "bad"),
	{"open db", "ok", "pairs a=1", "none", "error 2", "0", "version 2 a=1"},
	closed("open nobody", "meta"), closed("open f", "meta"), kept("open", "bad"), kept("open Q", "bad"),
	kept("begin", "busy"), kept("begin x", "bad"),
	{"commit", "ok", "pairs a=1 b=2", "none", "told 137", "0", "version 2 a=1 b=2"},
	{"rollback", "ok", "pairs a=1", "none", "told 137", "0", "version 2 a=1"},
	{"put k v", "ok", "pairs a=1", "pairs a=1 b=2 k=v", "told 137", "0", "version 2 a=1"},
	{"put a 2", "ok", "pairs a=1", "pairs a=2 b=2", "told 137", "0", "version 2 a=1"},
	{"del a", "ok", "pairs a=1", "pairs b=2", "told 137", "0", "version 2 a=1"},
	kept("del nobody", "ok"), kept("put longerkey v", "key"), kept("put k", "bad"), kept("commit x", "bad"), kept("rollback x", "bad"),
	kept("pin", "ok 2"), kept("pin x", "bad"), kept("unpin 2", "pin"), kept("unpin", "bad"),
	{"unpin 1", "ok", "pairs a=1", "pairs a=1 b=2", "error 2", "0", "version 2 a=1"},
	kept("scan 0", "pairs a=1"), kept("scan txn", "pairs a=1 b=2"), kept("scan 9", "none"), kept("scan", "bad"),
	{"backup 1 0", "backup 1", "pairs a=1", "pairs a=1 b=2", "told 22", "0", "version 2 a=1"},
	{"backup 1 1", "backup 1", "pairs a=1", "pairs a=1 b=2", "told 22", "0", "version 2 a=1"},
	kept("backup 2 0", "error 2"), kept("backup 1 2", "error 3"), kept("backup 1", "bad"),
	kept("step 0", "told 0"), kept("step", "bad"), kept("step 00", "bad"),
	{"step 1", "told 137", "pairs a=1", "pairs a=1 b=2", "told 5", "0", "version 2 a=1"},
	{"step 2", "told 142", "pairs a=1", "pairs a=1 b=2", "none", "7", "version 2 a=1"},
	{"step 9", "told 142", "pairs a=1", "pairs a=1 b=2", "none", "7", "version 2 a=1"},
	closed("restore q", "0"), closed("restore tmp", "9"), kept("restore", "bad"), kept("restore Q", "bad"),
	{"restore db", "0", "none", "none", "error 1", "0", "version 2 a=1"},
	closed("compact db q", "0"), closed("compact db db", "0"), closed("compact nobody q", "8"), closed("compact db tmp", "9"), closed("compact tmp q", "9"), closed("compact f q", "8"), kept("compact db", "bad"), kept("compact db Q", "bad"),
	{"compact nobody db", "8", "none", "none", "error 1", "0", "version 2 a=1"},
	{"forget", "ok", "pairs a=1", "pairs a=1 b=2", "told 137", "7", "version 2 a=1"}, kept("forget x", "bad"),
	closed("old q 5 k=v", "ok"), closed("old q 5", "ok"), closed("old db 5", "bad"), closed("old q 0", "bad"), closed("old q 5 b=1 a=2", "bad"), kept("old q 00", "bad"), kept("old q 5 k", "bad"), kept("old q 5 =v", "bad"), kept("old q", "bad"), kept("old Q 5", "bad"),
	closed("migrate f", "ok"), closed("migrate db", "ok"), closed("migrate nobody", "bad"), closed("migrate new", "bad"), kept("migrate", "bad"), kept("migrate F", "bad"),
	closed("read f", "version 1 x=1"), closed("read db", "version 2 a=1"), closed("read nobody", "version 0"), kept("read", "bad"), kept("read F", "bad"),
	kept("foo", "bad"), kept("", "bad"), kept("FORGET", "bad"),
}

func TestWhatIsGoneAndWhatStays(t *testing.T) {
	for _, row := range leavings {
		wantInScene(t, row.line, row.answer)
		for _, ask := range [][2]string{{"scan 0", row.scan}, {"scan txn", row.txn}, {"step 1", row.step}, {"restore z", row.restored}, {"read db", row.read}} {
			if got := toldLast(t, scene, row.line, ask[0]); got != ask[1] {
				t.Errorf("%q behind %q: %q, want %q", ask[0], row.line, got, ask[1])
			}
		}
	}
}

// What there is none of stays so, whatever is told of it.
func TestWithoutAStore(t *testing.T) {
	for _, closing := range []string{"read f", "restore q", "compact db q", "old q 5", "migrate f", "open nobody", "create db 7", "crash - - 0"} {
		for _, line := range []string{"begin", "commit", "rollback", "put k v", "del a", "unpin 1", "pin", "scan 0", "scan 1", "scan txn", "backup 1 0", "backup 9 9"} {
			if got := toldLast(t, scene, closing, line); got != "none" {
				t.Errorf("%q behind %q: %q", line, closing, got)
			}
		}
		want := append(told(t, scene+"\n"+closing), "none", "none", "ok", "ok", "ok", "pairs a=1 k=v", "ok 1", "none")
		wantScript(t, closing, scene+"\n"+closing+"\nbegin\nput k v\nopen db\nbegin\nput k v\nscan txn\npin\nscan 2", want)
	}
}

// A backup whose store is closed stays under way: it tells that there is no store, no such pin in another store, and goes on where the pin is made again.
func TestBackupsOfClosedStores(t *testing.T) {
	for _, closing := range []string{"read f", "restore q", "compact db q", "old q 5", "migrate f", "open nobody"} {
		talk := "disk 99 > ok; old f 5 x=1 > ok; create db 7 > ok; begin > ok; put a 1 > ok; commit > ok; pin > ok 1; backup 1 0 > backup 1; step 1 > told 22; " +
			closing + " > %s; step 0 > told 0; step 1 > error 1; step 9 > error 1; backup 1 0 > none; step 1 > error 1; open db > ok; step 1 > error 2; pin > ok 1; step 1 > told 137; read f > version 1 x=1; step 1 > error 1; open db > ok; pin > ok 1; step 9 > told 5; step 1 > none; restore z > 0; read z > version 2 a=1"
		answer := map[string]string{"read f": "version 1 x=1", "restore q": "7", "compact db q": "0", "old q 5": "ok", "migrate f": "ok", "open nobody": "meta"}[closing]
		if closing == "migrate f" {
			// The file is new now.
			talk = "disk 99 > ok; old f 5 x=1 > ok; migrate f > ok; " + talk[len("disk 99 > ok; old f 5 x=1 > ok; "):]
			talk = strings.ReplaceAll(talk, "read f > version 1 x=1", "read f > version 2 x=1")
		}
		wantTalk(t, closing, fmt.Sprintf(talk, answer))
	}
	wantTalk(t, "another store", "disk 99 > ok; create a 7 > ok; pin > ok 1; backup 1 0 > backup 1; create b 7 > ok; step 1 > error 2; begin > ok; put k v > ok; commit > ok; pin > ok 1; step 1 > error 2; open a > ok; step 1 > error 2; begin > ok; commit > ok; pin > ok 1; step 1 > error 2; backup 1 1 > backup 0; step 9 > told 27")
}

// The disk is the store's: what is done in the store is seen in the files, and the other way round.
func TestTheDiskIsTheStores(t *testing.T) {
	wantTalk(t, "a commit in the files", "disk 40 > ok; create a 7 > ok; begin > ok; put k v > ok; read a > version 2; open a > ok; scan txn > none; begin > ok; put k v > ok; commit > ok; compact a b > 0; read b > version 2 k=v; read a > version 2 k=v")
	wantTalk(t, "the fuel of commits", "disk 40 > ok; create a 7 > ok; power 8 > ok; begin > ok; put k v > ok; commit > ok; begin > ok; put k w > ok; commit > ok; begin > ok; put k x > ok; commit > lost; scan 0 > lost; crash - - 0 > ok; read a > version 2 k=w")
	wantTalk(t, "the fuel goes over to other stores", "disk 40 > ok; power 10 > ok; create a 7 > ok; begin > ok; put k v > ok; commit > ok; open a > ok; begin > ok; commit > lost; crash - - 0 > ok; read a > version 2 k=v")
	wantTalk(t, "and to other files", "disk 40 > ok; create a 7 > ok; power 9 > ok; begin > ok; put k v > ok; commit > ok; compact a b > 0; old c 5 > lost; crash - - 0 > ok; read b > version 2 k=v; read c > version 0")
	wantTalk(t, "power again", "disk 40 > ok; create a 7 > ok; power 9 > ok; begin > ok; power 2 > ok; commit > lost; disk 40 > ok; create a 7 > ok; power 1 > ok; begin > ok; power 3 > ok; put k v > ok; power 4 > ok; commit > ok; read a > version 2 k=v")
	wantTalk(t, "what a commit left in the cache", `disk 4 > ok; create a 7 > ok; begin > ok; put k v > ok; put l w > ok; put m x > ok; put n y > ok; put o z > ok; commit > full; scan 0 > pairs; scan txn > pairs k=v l=w m=x n=y o=z
		restore b > 9; begin > none; migrate a > bad; old b 5 > bad; create b 7 > bad; compact a b > 9; open a > ok; scan 0 > pairs; read a > version 2; crash - - 0 > ok; migrate a > ok; restore b > 7; open a > ok; begin > ok; put k v > ok; commit > ok; read a > version 2 k=v`)
	wantTalk(t, "room that a pin holds", "disk 4 > ok; create a 7 > ok; pin > ok 1; begin > ok; put k v > ok; commit > ok; begin > ok; put k w > ok; commit > full; unpin 1 > ok; commit > ok; scan 0 > pairs k=w")
}

// A creation that does not succeed leaves what it has written.
func TestTheDiskOfCreations(t *testing.T) {
	wantTalk(t, "full", "disk 2 > ok; create a 7 > full; begin > none; read a > version 0; open a > meta; create b 7 > bad; restore b > 9; crash 11 - 0 > ok; create a 7 > bad; restore b > 7; open a > meta")
	wantTalk(t, "full, and nothing is kept", "disk 2 > ok; create a 7 > full; crash - - 0 > ok; create a 7 > full; old b 5 > bad; crash - - 0 > ok; old b 5 > ok; read b > version 1")
	wantTalk(t, "lost", "disk 9 > ok; power 5 > ok; create a 7 > lost; begin > lost; crash - - 0 > ok; open a > meta; create a 7 > bad; create b 7 > ok")
	wantTalk(t, "lost, and the meta kept", "disk 9 > ok; power 5 > ok; create a 7 > lost; crash 1 - 0 > ok; open a > ok; scan 0 > pairs")
	wantTalk(t, "no fuel at all", "disk 9 > ok; power 0 > ok; create a 7 > lost; crash 1 - 0 > ok; open a > meta; create a 7 > ok; scan 0 > pairs")
	wantTalk(t, "refused", "disk 9 > ok; power 6 > ok; create a 0 > bad; create a 7 > ok; begin > ok; commit > lost")
	wantTalk(t, "Cap 0", "disk 0 > ok; create a 7 > full; old a 5 > full; read a > version 0")
}

// A disk takes the place of all that was there.
func TestANewDisk(t *testing.T) {
	wantScript(t, "a new disk", scene+"\ndisk 9\nread db\nread f\nstep 0\nrestore r\nscan 0\ncreate db 8\nscan 0\nscan 1\nscan txn\nstep 1\nbackup 1 0\ncompact db z\npower 9\nread z",
		append(told(t, scene), "ok", "version 0", "version 0", "none", "7", "none", "ok", "pairs", "none", "none", "none", "error 2", "0", "ok", "version 2"))
	wantScript(t, "a new disk has no end of power", "disk 9\npower 3\ndisk 40\ncreate a 7\nbegin\ncommit\nbegin\ncommit\ncompact a b", []string{"ok", "ok", "ok", "ok", "ok", "ok", "ok", "ok", "0"})
	wantScript(t, "a crash has no end of power", "disk 40\npower 3\ncrash - - 0\ncreate a 7\nbegin\ncommit\nbegin\ncommit\ncompact a b", []string{"ok", "ok", "ok", "ok", "ok", "ok", "ok", "ok", "0"})
	wantScript(t, "room as said", "disk 5\ncreate a 7\ncompact a b\ndisk 6\ncreate a 7\ncompact a b", []string{"ok", "ok", "10", "ok", "ok", "0"})
}
