package tests

import (
	"fmt"
	"regexp"
	"strconv"
	"strings"
	"testing"

	"loop.example/s02098/impl"
)

// told are the answers to a script, line by line. The last of its lines may have a newline or none.
func told(t *testing.T, script string) []string {
	t.Helper()
	got := string(impl.RunScript([]byte(script)))
	if got == "" {
		return nil
	}
	if !strings.HasSuffix(got, "\n") {
		t.Fatalf("%q: no newline behind %q", script, got)
	}
	return strings.Split(strings.TrimSuffix(got, "\n"), "\n")
}

// toldLast is the answer to the last line.
func toldLast(t *testing.T, lines ...string) string {
	t.Helper()
	got := told(t, strings.Join(lines, "\n")+"\n")
	if len(got) == 0 {
		t.Fatalf("%q: no answer", lines)
	}
	return got[len(got)-1]
}

// wantScript holds the answers to a script against those that are wanted.
func wantScript(t *testing.T, what, script string, want []string) {
	t.Helper()
	got := told(t, script)
	lines := strings.Split(script, "\n")
	for i := range max(len(got), len(want)) {
		switch {
		case i >= len(got):
			t.Errorf("%s: %d answers, want %d", what, len(got), len(want))
			return
		case i >= len(want):
			t.Errorf("%s: %d answers, want %d: then %q", what, len(got), len(want), got[i])
			return
		case got[i] != want[i]:
			t.Errorf("%s: line %d, %q: %q, want %q\nbehind %q", what, i, lines[i], got[i], want[i], lines[max(0, i-20):i])
			return
		}
	}
}

// wantTalk reads "line > answer", one behind the other with "; " or a new line between.
func wantTalk(t *testing.T, what, talk string) {
	t.Helper()
	var lines, want []string
	for _, part := range strings.Split(strings.ReplaceAll(talk, "\n", "; "), "; ") {
		if part = strings.TrimSpace(part); part == "" {
			continue
		}
		line, answer, ok := strings.Cut(part, " > ")
		if !ok {
			t.Fatalf("%s: no answer in %q", what, part)
		}
		lines, want = append(lines, line), append(want, answer)
	}
	wantScript(t, what, strings.Join(lines, "\n"), want)
}

// The model: the words of the document once more, on the functions of the chapters before. Lines are read by expressions.

type bench struct {
	hasDisk, hasStore, hasBackup bool
	disk                         impl.Disk
	store                        impl.Store
	backup                       impl.Backup
	told                         []byte
	streams                      []impl.Blob
}

type benchForm struct {
	form *regexp.Regexp
	do   func(b *bench, m []string) string
}

// formOf has # for a NUM, N for a name, K for a field of any bytes, B for BITS, T for a NUM or "-", S for a NUM or "txn", and P for pairs with their spaces.
func formOf(form string, do func(b *bench, m []string) string) benchForm {
	num := `0|[1-9][0-9]{0,6}`
	with := strings.NewReplacer(" #", ` (`+num+`)`, " N", ` ([a-z]{1,8})`, " K", ` ([^ ]+)`, " B", ` (-|[01]+)`, " T", ` (-|`+num+`)`, " S", ` (txn|`+num+`)`, "P", `((?: [^ =]+=[^ ]*)*)`)
	return benchForm{regexp.MustCompile(`(?s)^` + with.Replace(form) + `$`), do}
}

var benchForms = []benchForm{
	formOf("disk #", (*bench).doDisk), formOf("power #", (*bench).doPower), formOf("crash B T #", (*bench).doCrash),
	formOf("create N #", func(b *bench, m []string) string { return b.entered(impl.CreateStore(b.disk, m[1], numOf(m[2]))) }),
	formOf("open N", func(b *bench, m []string) string { return b.entered(impl.OpenStore(b.disk, m[1])) }),
	formOf("begin", func(b *bench, m []string) string { return b.done(impl.Op{Kind: impl.OpBegin}) }),
	formOf("commit", func(b *bench, m []string) string { return b.done(impl.Op{Kind: impl.OpCommit}) }),
	formOf("rollback", func(b *bench, m []string) string { return b.done(impl.Op{Kind: impl.OpRollback}) }),
	formOf("put K K", func(b *bench, m []string) string {
		return b.done(impl.Op{Kind: impl.OpPut, Key: m[1], Val: m[2]})
	}),
	formOf("del K", func(b *bench, m []string) string { return b.done(impl.Op{Kind: impl.OpDel, Key: m[1]}) }),
	formOf("unpin #", func(b *bench, m []string) string {
		return b.done(impl.Op{Kind: impl.OpUnpin, Pin: numOf(m[1])})
	}),
	formOf("pin", func(b *bench, m []string) string { return b.done(impl.Op{Kind: impl.OpPin}) }),
	formOf("scan S", (*bench).doScan), formOf("backup # #", (*bench).doBackup), formOf("step #", (*bench).doStep),
	formOf("restore N", func(b *bench, m []string) string { return fmt.Sprint(b.left(impl.Restore(b.disk, m[1], b.streams))) }),
	formOf("compact N N", func(b *bench, m []string) string { return fmt.Sprint(b.left(impl.Compact(b.disk, m[1], m[2]))) }),
	formOf("forget", func(b *bench, m []string) string { b.streams = nil; return "ok" }),
	formOf("old N #P", (*bench).doOld),
	formOf("migrate N", func(b *bench, m []string) string { return mgWord(b.left(impl.Migrate(b.disk, m[1]))) }),
	formOf("read N", func(b *bench, m []string) string {
		b.hasStore = false
		r := impl.ReadAny(b.disk, m[1])
		return fmt.Sprint("version ", r.Version) + pairsText(r.Pairs)
	}),
}

// numOf gives -1 for what is no number: "-" and "txn".
func numOf(text string) int64 {
	num, err := strconv.ParseInt(text, 10, 64)
	if err != nil {
		return -1
	}
	return num
}

func stWord(code int64) string {
	return strings.Fields("none ok bad busy txn key val full pins pin lost meta tree nodes")[code]
}

func mgWord(err int64) string { return strings.Fields("ok bad full lost")[err] }

func pairsText(pairs []impl.Pair) string {
	out := ""
	for _, p := range pairs {
		out += " " + p.Key + "=" + p.Val
	}
	return out
}

// modelScript answers a script of at most ScriptMax bytes.
func modelScript(script string) []string {
	if script == "" {
		return nil
	}
	b := &bench{}
	var out []string
	for _, line := range strings.Split(strings.TrimSuffix(script, "\n"), "\n") {
		out = append(out, b.line(line))
	}
	return out
}

func (b *bench) line(line string) string {
	var do func(b *bench, m []string) string
	var fields []string
	for _, f := range benchForms {
		if m := f.form.FindStringSubmatch(line); m != nil {
			do, fields = f.do, m
		}
	}
	disk, crash := line == "disk" || strings.HasPrefix(line, "disk "), line == "crash" || strings.HasPrefix(line, "crash ")
	switch {
	case disk && do == nil:
		return "bad"
	case !disk && !b.hasDisk:
		return "none"
	case crash && do == nil:
		return "bad"
	case !disk && !crash && b.disk.Dead:
		return "lost"
	case do == nil:
		return "bad"
	}
	return do(b, fields)
}

func (b *bench) doDisk(m []string) string {
	if numOf(m[1]) > impl.CapMax {
		return "bad"
	}
	*b = bench{hasDisk: true, disk: impl.DiskNew(numOf(m[1]))}
	return "ok"
}

func (b *bench) doPower(m []string) string {
	if numOf(m[1]) > impl.FuelMax {
		return "bad"
	}
	b.disk.Fuel = numOf(m[1])
	b.store.Disk.Fuel = numOf(m[1])
	return "ok"
}

func (b *bench) doCrash(m []string) string {
	c := impl.Crash{Tear: numOf(m[2]), At: numOf(m[3])}
	for _, bit := range strings.Trim(m[1], "-") {
		c.Keep = append(c.Keep, bit == '1')
	}
	b.disk = impl.CrashDisk(b.disk, c)
	b.hasStore, b.hasBackup = false, false
	return "ok"
}

func (b *bench) entered(r impl.StoreRes) string {
	b.hasStore, b.store = r.Code == impl.StOk, r.Store
	if r.Code == impl.StOk || r.Code == impl.StFull || r.Code == impl.StLost {
		b.disk = r.Store.Disk
	}
	return stWord(r.Code)
}

func (b *bench) done(op impl.Op) string {
	if !b.hasStore {
		return "none"
	}
	r := impl.Do(b.store, op)
	b.store, b.disk = r.Store, r.Store.Disk
	if op.Kind == impl.OpPin && r.Code == impl.StOk {
		return fmt.Sprint("ok ", r.Pin)
	}
	return stWord(r.Code)
}

func (b *bench) doScan(m []string) string {
	if b.hasStore {
		if r := impl.View(b.store, numOf(m[1]), "", ""); r.Ok {
			return "pairs" + pairsText(r.Pairs)
		}
	}
	return "none"
}

func (b *bench) doBackup(m []string) string {
	if !b.hasStore {
		return "none"
	}
	r := impl.BackupStart(b.store, numOf(m[1]), numOf(m[2]))
	if r.Err != impl.BkOk {
		return fmt.Sprint("error ", r.Err)
	}
	b.hasBackup, b.backup, b.told = true, r.Backup, nil
	return fmt.Sprint("backup ", len(r.Backup.Left))
}

func (b *bench) doStep(m []string) string {
	if !b.hasBackup {
		return "none"
	}
	before := len(b.told)
	for steps := numOf(m[1]); steps > 0 && b.hasBackup; steps-- {
		store := impl.Store{}
		if b.hasStore {
			store = b.store
		}
		r := impl.BackupStep(store, b.backup)
		if r.Err != impl.BkOk {
			return fmt.Sprint("error ", r.Err)
		}
		b.backup, b.told = r.Backup, append(b.told, r.Chunk...)
		if r.Backup.Ended {
			b.hasBackup, b.streams = false, append(b.streams, impl.Blob{Data: b.told})
		}
	}
	return fmt.Sprint("told ", len(b.told)-before)
}

func (b *bench) doOld(m []string) string {
	var pairs []impl.Pair
	for _, field := range strings.Split(m[3], " ")[1:] {
		key, val, _ := strings.Cut(field, "=")
		pairs = append(pairs, impl.Pair{Key: key, Val: val})
	}
	return mgWord(b.left(impl.WriteOld(b.disk, m[1], numOf(m[2]), pairs)))
}

// left is the Err of an answer behind which there is no store.
func (b *bench) left(r impl.RestoreRes) int64 {
	b.disk, b.hasStore = r.Disk, false
	return r.Err
}
