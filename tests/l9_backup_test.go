package tests

import (
	"fmt"
	"strings"
	"testing"
)

// six has a store whose pinned tree has three pages, so that its stream has five chunks: 22, 137, 137, 137 and 5 bytes.
const six = "disk 99\ncreate a 7\nbegin\nput a 1\nput b 2\nput c 3\nput d 4\nput e 5\nput f 6\ncommit\npin"

func bytesOfSteps(from, to int) int {
	sum := 0
	for i, size := range []int{22, 137, 137, 137, 5} {
		if i >= from && i < to {
			sum += size
		}
	}
	return sum
}

// Whatever the steps are, the bytes of a step are those of its own chunks, and the stream is the same.
func TestStepsOfEverySize(t *testing.T) {
	for first := range 8 {
		for second := range 8 {
			for third := range 3 {
				lines, want, at := []string{six, "backup 1 0"}, []string{"backup 3"}, 0
				for _, steps := range []int{first, second, third, 9} {
					lines = append(lines, fmt.Sprint("step ", steps))
					if at == 5 {
						want = append(want, "none")
						continue
					}
					next := min(at+steps, 5)
					want = append(want, fmt.Sprint("told ", bytesOfSteps(at, next)))
					at = next
				}
				lines = append(lines, "step 1", "restore x", "read x")
				want = append(want, "none", "0", "version 2 a=1 b=2 c=3 d=4 e=5 f=6")
				wantScript(t, fmt.Sprint("steps ", first, second, third), strings.Join(lines, "\n"), append(told(t, six), want...))
			}
		}
	}
}

// No stream is there ahead of the end; at it, it is one, and the next backup begins anew.
func TestStreamsThatAreFinished(t *testing.T) {
	for steps := range 7 {
		restored := "7"
		if steps >= 5 {
			restored = "0"
		}
		lines := []string{six, "backup 1 0", fmt.Sprint("step ", steps), "restore x", "open a", "pin", "backup 1 0", "step 1", "step 9"}
		want := append(told(t, six), "backup 3", fmt.Sprint("told ", bytesOfSteps(0, steps)), restored, "ok", "ok 1", "backup 3", "told 22", "told 416")
		wantScript(t, fmt.Sprint(steps, " steps"), strings.Join(lines, "\n"), want)
	}
	// A backup that another one takes the place of is no stream.
	wantScript(t, "a backup given up", six+"\nbackup 1 0\nstep 4\nbackup 1 0\nstep 4\nrestore x\nopen a\npin\nstep 1\nrestore x\nread x",
		append(told(t, six), "backup 3", "told 433", "backup 3", "told 433", "7", "ok", "ok 1", "told 5", "0", "version 2 a=1 b=2 c=3 d=4 e=5 f=6"))
}

// rolling has a chain of so many streams, a full one and each next one on the one before, and gives the pairs that they lead to.
func rolling(count int) (string, string) {
	lines, pairs := []string{"disk 400", "create a 7"}, ""
	base := 0
	for i, key := range letters(count) {
		lines = append(lines, "begin", "put "+key+" "+key, "commit", "pin", fmt.Sprintf("backup %d %d", i%2+1, base), "step 99")
		if i > 0 {
			lines = append(lines, fmt.Sprint("unpin ", (i+1)%2+1))
		}
		pairs += " " + key + "=" + key
		// The store is created with Tx 1.
		base = i + 2
	}
	return strings.Join(lines, "\n"), pairs
}

func TestChainsInScripts(t *testing.T) {
	for count := 1; count <= 21; count++ {
		script, pairs := rolling(count)
		answers := told(t, script)
		for i, line := range strings.Split(script, "\n") {
			if strings.HasPrefix(line, "backup ") && !strings.HasPrefix(answers[i], "backup ") {
				t.Fatalf("%q: %q", line, answers[i])
			}
		}
		want := []string{"0", "version 2" + pairs, "ok", "7", "version 2" + pairs}
		if count > 20 {
			// There are ChainMax streams at most.
			want = []string{"7", "version 0", "ok", "7", "version 0"}
		}
		wantScript(t, fmt.Sprint(count, " streams"), script+"\nrestore x\nread x\nforget\nrestore y\nread x", append(answers, want...))
	}
}

// Streams stay until they are forgotten; a chain in a wrong order is none.
func TestOrdersOfChains(t *testing.T) {
	start := "disk 99\ncreate a 7\nbegin\nput a 1\ncommit\npin\nbegin\nput b 2\ncommit\npin\nbegin\nput c 3\ncommit\npin"
	telling := map[byte]string{'1': "backup 1 0\nstep 9", '2': "backup 2 2\nstep 9", '3': "backup 3 3\nstep 9", 'f': "backup 3 0\nstep 9", 'g': "backup 3 2\nstep 9"}
	for order, want := range map[string]string{
		"": "7", "1": "0 a=1", "2": "7", "3": "7", "f": "0 a=1 b=2 c=3", "g": "7", "12": "0 a=1 b=2", "123": "0 a=1 b=2 c=3", "1g": "0 a=1 b=2 c=3",
		"11": "7", "21": "7", "13": "7", "132": "7", "213": "7", "321": "7", "122": "7", "1f": "7", "f1": "7", "12g": "7", "1g3": "7", "1233": "7",
	} {
		lines := []string{start}
		for i := range len(order) {
			lines = append(lines, telling[order[i]])
		}
		err, pairs, _ := strings.Cut(want, " ")
		read := "version 0"
		if err == "0" {
			read = "version 2 " + pairs
		}
		if got := toldLast(t, append(lines, "restore x")...); got != err {
			t.Errorf("chain %q: %q, want %q", order, got, err)
		}
		if got := toldLast(t, append(lines, "restore x", "read x")...); got != read {
			t.Errorf("chain %q: %q, want %q", order, got, read)
		}
		// Restored again, into the file itself, into the store's, and behind a crash.
		lines = append(lines, "restore x", "restore x", "crash - - 0", "restore a", "read a")
		behind := "version 2 a=1 b=2 c=3"
		if err == "0" {
			behind = read
		}
		if got := toldLast(t, lines...); got != behind {
			t.Errorf("chain %q over the store: %q, want %q", order, got, behind)
		}
		if got := toldLast(t, append(lines, "forget", "restore x")...); got != "7" {
			t.Errorf("chain %q forgotten: %q", order, got)
		}
	}
}

// Commits between the steps are not in the stream.
func TestHotBackupsInScripts(t *testing.T) {
	between := []string{"begin\nput a 9\ncommit", "begin\ndel b\ndel c\ncommit", "begin\nput z 1\ncommit", "pin\nunpin 2", "begin\nput q 1", "rollback", "scan 0\nscan txn", "power 60"}
	for at := range 6 {
		lines := []string{six, "backup 1 0"}
		for step := range 5 {
			if step == at {
				lines = append(lines, between...)
			}
			lines = append(lines, "step 1")
		}
		if at == 5 {
			lines = append(lines, between...)
		}
		lines = append(lines, "scan 1", "scan 0", "restore x", "read x")
		got := told(t, strings.Join(lines, "\n"))
		want := []string{"pairs a=1 b=2 c=3 d=4 e=5 f=6", "pairs a=9 d=4 e=5 f=6 z=1", "0", "version 2 a=1 b=2 c=3 d=4 e=5 f=6"}
		if fmt.Sprint(got[len(got)-4:]) != fmt.Sprint(want) {
			t.Errorf("commits ahead of step %d: %q, want %q", at, got[len(got)-4:], want)
		}
	}
}
