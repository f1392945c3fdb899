package tests

import (
	"fmt"
	"strings"
	"testing"

	"loop.example/s02098/impl"
)

func TestWordsOfTheStore(t *testing.T) {
	wantTalk(t, "ok, busy, txn, key, val, pins, pin", `disk 40 > ok; create a 7 > ok; put k v > txn; del k > txn; commit > txn; rollback > txn; put longerkey v > txn; begin > ok; begin > busy; put longerkey v > key; del longerkey > key; put k v > ok
		unpin 1 > pin; pin > ok 1; pin > ok 2; pin > ok 3; pin > ok 4; pin > ok 5; pin > ok 6; pin > ok 7; pin > ok 8; pin > pins; pin > pins; unpin 9 > pin; unpin 3 > ok; unpin 3 > pin; unpin 1 > ok; pin > ok 1; pin > ok 3; pin > pins; commit > ok; rollback > txn; open a > ok; begin > ok; rollback > ok; commit > txn`)
	wantTalk(t, "val", "disk 40 > ok; create a 7 > ok; begin > ok; put k "+strings.Repeat("v", 401)+" > val; put k "+strings.Repeat("v", 400)+" > ok; commit > ok; scan 0 > pairs k="+strings.Repeat("v", 400))
	wantTalk(t, "bad, full, lost, meta", "disk 3 > ok; create a 0 > bad; open a > meta; create a 7 > ok; create a 7 > bad; open a > ok; begin > ok; put k v > ok; commit > full; commit > full; rollback > ok; commit > txn; create b 7 > full; crash - - 0 > ok; create b 7 > full; disk 9 > ok; power 1 > ok; create a 7 > lost; crash - - 0 > ok; power 6 > ok; create a 7 > ok; begin > ok; commit > lost")
	wantTalk(t, "tree", "disk 40 > ok; create a 7 > ok; power 2 > ok; compact a b > 11; crash 11 - 0 > ok; open tmp > tree; scan 0 > none; open a > ok; create tmp 7 > bad")
}

// crowd is a script that makes a tree of nearly NodeMax nodes: an old file of full leaves, into each of which one more key goes, from the right (so more inner nodes are parted). The number of keys that find room comes with it.
func crowd(t *testing.T) (string, int) {
	t.Helper()
	letters := ""
	for c := byte('!'); c <= '~'; c++ {
		if c != '=' {
			letters += string(rune(c))
		}
	}
	var pairs []impl.Pair
	for i := 0; len(pairs) < 1400; i++ {
		row, column := i/(len(letters)/2), 2*(i%(len(letters)/2))
		pairs = append(pairs, impl.Pair{Key: letters[row:row+1] + letters[column:column+1]})
	}
	var script strings.Builder
	script.WriteString("disk 1000\nold a 1" + pairsText(pairs) + "\nmigrate a\nopen a\nbegin\n")
	tree, room := impl.TreeBulk(pairs), 0
	for i := len(pairs) - 1; ; i -= 4 {
		if i < 0 {
			t.Fatalf("there is room for all %d keys", room)
		}
		at := strings.IndexByte(letters, pairs[i].Key[1])
		key := pairs[i].Key[:1] + letters[at+1:at+2]
		script.WriteString("put " + key + " 1\n")
		r := impl.TreePut(tree, key, "1")
		if !r.Ok {
			return script.String(), room
		}
		tree, room = r.Tree, room+1
	}
}

func TestTheWordNodes(t *testing.T) {
	script, room := crowd(t)
	script += "put zz 1\nput !! 2\nscan 0\n"
	if len(script) > impl.ScriptMax {
		t.Fatalf("the test's script has %d bytes", len(script))
	}
	got := told(t, script)
	want := strings.Fields(strings.Repeat("ok ", 5+room) + "nodes")
	for i, word := range want {
		if got[i] != word {
			t.Fatalf("line %d: %q, want %q", i, got[i], word)
		}
	}
	if rest := got[len(want):]; rest[0] != "ok" && rest[0] != "nodes" || rest[1] != "ok" || strings.Count(rest[2], " ") != 1400 {
		t.Errorf("behind nodes: %.60q", rest)
	}
}

func TestWordsOfConversions(t *testing.T) {
	wantTalk(t, "old", "disk 3 > ok; old a 0 > bad; old a 5 k=v > ok; old a 5 k=v > bad; old b 5 k=v > full; old c 5 > bad; crash - - 0 > ok; power 0 > ok; old c 5 > lost; old c 5 > lost; crash - - 0 > ok; power 2 > ok; old c 5 > full; crash - - 0 > ok; read a > version 1 k=v; read b > version 0; read c > version 0")
	wantTalk(t, "migrate", "disk 4 > ok; old a 5 k=v > ok; migrate b > bad; migrate a > full; read a > version 1 k=v; migrate a > bad; crash - - 0 > ok; power 2 > ok; migrate a > full; crash 11 - 0 > ok; read a > version 1 k=v; disk 9 > ok; old a 5 k=v > ok; power 3 > ok; migrate a > lost; crash - - 0 > ok; read a > version 1 k=v; migrate a > ok; migrate a > ok; read a > version 2 k=v; power 0 > ok; migrate a > ok; migrate new > bad")
}

// All numbers that a chain of finished streams can lead to; the others are those of streams that no backup tells.
func TestNumbersOfRestores(t *testing.T) {
	wantTalk(t, "0, 7, 9", `disk 40 > ok; restore x > 7; create a 7 > ok; pin > ok 1; backup 1 0 > backup 1; restore x > 7; step 9 > error 1; open a > ok; pin > ok 1; step 9 > told 164; restore x > 0; restore tmp > 9; restore a > 0; restore x > 0; read x > version 2; read a > version 2`)
	wantTalk(t, "10", "disk 5 > ok; create a 7 > ok; pin > ok 1; backup 1 0 > backup 1; step 3 > told 164; restore x > 10; restore x > 9; read a > version 2; crash - - 0 > ok; restore a > 10; crash 11 - 0 > ok; read a > version 2; open tmp > tree; disk 6 > ok; create a 7 > ok; pin > ok 1; backup 1 0 > backup 1; step 3 > told 164; restore x > 0")
	wantTalk(t, "11", "disk 40 > ok; create a 7 > ok; pin > ok 1; backup 1 0 > backup 1; step 3 > told 164; power 4 > ok; restore x > 11; restore x > lost; crash 111 - 0 > ok; read x > version 0; power 6 > ok; restore x > 0; read x > version 2; power 0 > ok; restore x > 11")
	// Two stores of one Id: the second stream stands on pages that the first does not have.
	wantTalk(t, "8", `disk 99 > ok; create a 7 > ok; begin > ok; commit > ok; pin > ok 1; backup 1 0 > backup 1; step 9 > told 164
		create b 7 > ok; begin > ok; put a 1 > ok; put b 2 > ok; put c 3 > ok; put d 4 > ok; put e 5 > ok; commit > ok; begin > ok; put e 6 > ok; commit > ok; pin > ok 1; backup 1 2 > backup 2; step 9 > told 301; restore x > 8; begin > none; read x > version 0`)
	wantTalk(t, "compact", "disk 6 > ok; compact a b > 8; create a 7 > ok; compact a b > 0; compact a tmp > 9; compact tmp a > 9; compact a c > 10; compact a c > 10; crash - - 0 > ok; compact c a > 8; power 0 > ok; compact a b > 10; disk 9 > ok; create a 7 > ok; power 0 > ok; compact a b > 11; compact a b > lost")
}

func TestNumbersOfBackups(t *testing.T) {
	wantTalk(t, "1, 2, 3", `disk 40 > ok; create a 7 > ok; backup 0 0 > error 2; backup 1 0 > error 2; pin > ok 1; backup 1 1 > error 3; backup 1 0 > backup 1; backup 2 0 > error 2; backup 2 1 > error 2; begin > ok; put k v > ok; commit > ok; backup 1 1 > error 3; pin > ok 2; backup 2 1 > backup 1; backup 2 2 > error 3; backup 2 0 > backup 1
		step 1 > told 22; unpin 2 > ok; step 0 > told 0; step 1 > error 2; step 9 > error 2; pin > ok 2; step 1 > told 137; unpin 2 > ok; begin > ok; commit > ok; pin > ok 2; step 1 > error 2; read a > version 2 k=v; step 1 > error 1`)
}

// The pages that are left are counted, those of long values, too.
func TestPagesOfBackups(t *testing.T) {
	for _, size := range []int{1, 8, 9, 96, 97, 192, 193, 400} {
		over := 0
		if size > impl.InlineMax {
			over = (size + impl.OverBytes - 1) / impl.OverBytes
		}
		wantTalk(t, fmt.Sprint(size, " bytes"), fmt.Sprintf("disk 40 > ok; create a 7 > ok; begin > ok; put k %s > ok; commit > ok; pin > ok 1; backup 1 0 > backup %d; backup 1 1 > backup %d; step 99 > told %d; step 1 > none; restore x > 7; read x > version 0",
			strings.Repeat("v", size), 1+over, 1+over, 27+137*(1+over)))
	}
}
