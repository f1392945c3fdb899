package tests

import (
	"fmt"
	"strings"
	"testing"
)

// outage is a line that takes device steps, what is asked behind it, and what is answered before it is done and when it is. The fuel is the number of its steps.
type outage struct {
	what, before, line string
	lost, done         string
	ask                []string
	then, now          string
	fuel               int
}

var outages = []outage{
	{"a creation", "disk 20", "create db 7", "lost", "ok", []string{"open db"}, "meta", "ok", 6},
	{"a commit", six + "\nbegin\nput a 9\ndel b\nput g " + strings.Repeat("v", 200), "commit", "lost", "ok", []string{"open a", "scan 0"}, "pairs a=1 b=2 c=3 d=4 e=5 f=6", "pairs a=9 c=3 d=4 e=5 f=6 g=" + strings.Repeat("v", 200), 9},
	{"a restore", six + "\nbackup 1 0\nstep 9", "restore x", "11", "0", []string{"read x"}, "version 0", "version 2 a=1 b=2 c=3 d=4 e=5 f=6", 8},
	{"a restore over a file", six + "\nbackup 1 0\nstep 9\nold x 5 k=v", "restore x", "11", "0", []string{"read x"}, "version 1 k=v", "version 2 a=1 b=2 c=3 d=4 e=5 f=6", 8},
	{"a restore over its store", six + "\nbackup 1 0\nstep 9\nbegin\ndel a\ncommit", "restore a", "11", "0", []string{"read a"}, "version 2 b=2 c=3 d=4 e=5 f=6", "version 2 a=1 b=2 c=3 d=4 e=5 f=6", 8},
	{"a compact copy", six, "compact a b", "11", "0", []string{"read b"}, "version 0", "version 2 a=1 b=2 c=3 d=4 e=5 f=6", 7},
	{"a compact copy over a file", six + "\ncreate b 8", "compact a b", "11", "0", []string{"open b", "scan 0"}, "pairs", "pairs a=1 b=2 c=3 d=4 e=5 f=6", 7},
	{"a conversion", "disk 40\nold f 5 a=1 b=2 c=3 d=4 e=5 f=6 g=" + strings.Repeat("v", 100), "migrate f", "lost", "ok", []string{"read f"}, "version 1 a=1 b=2 c=3 d=4 e=5 f=6 g=" + strings.Repeat("v", 100), "version 2 a=1 b=2 c=3 d=4 e=5 f=6 g=" + strings.Repeat("v", 100), 15},
}

// toll is the number of device steps that a line takes: the smallest fuel with which it is done.
func (o outage) toll(t *testing.T) int {
	t.Helper()
	for fuel := range 60 {
		switch got := toldLast(t, o.before, fmt.Sprint("power ", fuel), o.line); got {
		case o.done:
			return fuel
		case o.lost:
		default:
			t.Fatalf("%s with fuel %d: %q", o.what, fuel, got)
		}
	}
	t.Fatalf("%s is never done", o.what)
	return 0
}

func TestEveryFuelInScripts(t *testing.T) {
	crashes := []string{"- - 0", "1111111111111111 - 0", "0000000000000000 - 9", "10101010101010 - 0", "0101010101010 - 0", "1 - 0", "01 - 0", "001 - 0", "0001 - 0"}
	for tear := range 6 {
		for _, at := range []int{0, 5, 64, 124, 128} {
			crashes = append(crashes, fmt.Sprint("1111111111111111 ", tear, " ", at), fmt.Sprint("- ", tear, " ", at))
		}
	}
	for _, o := range outages {
		toll := o.toll(t)
		if toll != o.fuel {
			t.Errorf("%s takes %d steps, want %d", o.what, toll, o.fuel)
		}
		for fuel := range toll + 2 {
			for _, crash := range crashes {
				lines := append([]string{o.before, fmt.Sprint("power ", fuel), o.line, "crash " + crash}, o.ask...)
				script := strings.Join(lines, "\n")
				got := told(t, script)
				last := got[len(got)-1]
				what := fmt.Sprintf("%s, fuel %d, crash %s", o.what, fuel, crash)
				if last != o.then && last != o.now || fuel >= toll && last != o.now {
					t.Errorf("%s: %q, want %q or %q", what, last, o.then, o.now)
				}
				wantScript(t, what, script, modelScript(script))
			}
			if t.Failed() {
				return
			}
		}
	}
}

// The line is done again behind the crash, and what it leaves is as if nothing had been.
func TestAgainBehindTheCrash(t *testing.T) {
	for _, o := range outages {
		if o.what == "a creation" || o.what == "a commit" {
			continue
		}
		for fuel := range o.toll(t) {
			for _, crash := range []string{"- - 0", "111111111111 - 0", "0101 - 0", "1111 2 60"} {
				lines := append([]string{o.before, fmt.Sprint("power ", fuel), o.line, "crash " + crash, o.line}, o.ask...)
				if got := toldLast(t, lines...); got != o.now {
					t.Errorf("%s, fuel %d, crash %s, and again: %q, want %q", o.what, fuel, crash, got, o.now)
				}
				for _, name := range []string{"tmp", "new", "log"} {
					if got := toldLast(t, append(lines, "create "+name+" 7")...); got != "ok" {
						t.Errorf("%s, fuel %d, crash %s, and again: there is a file %s: %q", o.what, fuel, crash, name, got)
					}
				}
			}
		}
	}
}

// Every write of a commit is kept or lost by its own bit; the pages come first, the meta behind the sync.
func TestBitsOfACrash(t *testing.T) {
	for bits := range 8 {
		text := fmt.Sprintf("%03b", bits)
		wantTalk(t, "the pages of a creation, "+text, fmt.Sprintf("disk 9 > ok; power 3 > ok; create a 7 > lost; crash %s - 0 > ok; open a > meta; create a 7 > %s", text, map[bool]string{true: "ok", false: "bad"}[bits == 0]))
	}
	wantTalk(t, "the meta kept", "disk 9 > ok; create a 7 > ok; begin > ok; put k v > ok; power 3 > ok; commit > lost; crash 1 - 0 > ok; read a > version 2 k=v")
	wantTalk(t, "the meta lost", "disk 9 > ok; create a 7 > ok; begin > ok; put k v > ok; power 3 > ok; commit > lost; crash 0 - 0 > ok; read a > version 2")
	wantTalk(t, "the meta torn", "disk 9 > ok; create a 7 > ok; begin > ok; put k v > ok; power 3 > ok; commit > lost; crash 1 0 60 > ok; read a > version 2")
	wantTalk(t, "the meta torn behind its end", "disk 9 > ok; create a 7 > ok; begin > ok; put k v > ok; power 3 > ok; commit > lost; crash 0 0 128 > ok; read a > version 2 k=v")
	wantTalk(t, "a tear elsewhere", "disk 9 > ok; create a 7 > ok; begin > ok; put k v > ok; power 3 > ok; commit > lost; crash 1 1 60 > ok; read a > version 2 k=v")
	wantTalk(t, "the second bit", "disk 9 > ok; create a 7 > ok; begin > ok; put k v > ok; power 3 > ok; commit > lost; crash 01 - 0 > ok; read a > version 2")
	wantTalk(t, "a crash of a disk that lives", "disk 9 > ok; create a 7 > ok; begin > ok; put k v > ok; commit > ok; begin > ok; put l w > ok; crash 1111 - 0 > ok; begin > none; read a > version 2 k=v; open a > ok; begin > ok; commit > ok")
	wantTalk(t, "crash behind crash", "disk 9 > ok; create a 7 > ok; crash - - 0 > ok; crash 1 0 0 > ok; read a > version 2; power 0 > ok; crash - - 0 > ok; open a > ok; begin > ok; commit > ok")
}

// The power is that of the disk: it is spent by what steps, and by nothing else.
func TestFuelIsSpentByStepsAlone(t *testing.T) {
	idle := []string{"scan 0", "scan txn", "scan 1", "pin", "unpin 1", "backup 1 0", "step 9", "begin", "put k v", "del k", "rollback", "read a", "open a", "forget", "foo", "power", "crash", "disk", "restore tmp", "compact nobody b", "old a 5", "migrate nobody", "create a 7"}
	for fuel := range 4 {
		lines := append([]string{six, fmt.Sprint("power ", fuel)}, idle...)
		lines = append(lines, idle...)
		// Without a change a commit takes three steps.
		want := "lost"
		if fuel >= 3 {
			want = "ok"
		}
		if got := toldLast(t, append(lines, "open a", "begin", "commit")...); got != want {
			t.Errorf("fuel %d: %q, want %q", fuel, got, want)
		}
	}
	wantTalk(t, "FuelMax", "disk 40 > ok; power 1000000 > ok; create a 7 > ok; begin > ok; commit > ok; read a > version 2")
	wantTalk(t, "more than FuelMax", "disk 40 > ok; power 5 > ok; power 1000001 > bad; create a 7 > lost")
}
