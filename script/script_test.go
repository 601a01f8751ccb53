package script_test

import (
	"bytes"
	"encoding/hex"
	"math"
	"math/rand"
	"reflect"
	"strconv"
	"strings"
	"testing"

	"drogher/api"
	"drogher/script"
	"drogher/updater"
)

// P30.1, P30.2: texts.
func TestHex(t *testing.T) {
	r := rand.New(rand.NewSource(30))
	for n := range 100 {
		b := make([]byte, n)
		r.Read(b)
		s := script.Hex(b)
		if n == 0 && s != "." || n > 0 && s != hex.EncodeToString(b) {
			t.Error("P30.1: hex", s)
		}
		if got, ok := script.Unhex(s); !ok || !bytes.Equal(got, b) {
			t.Error("P30.2: unhex", s)
		}
	}
	if script.Hex([]byte{10, 255}) != "0aff" || script.Hex(nil) != "." {
		t.Error("P30.1: the example")
	}
	for _, s := range []string{"", "0", "0A", "0aF", "..", ".0", "0.", "0g", "abc", " ", "0a ", " 0a", "0x0a", "é", "-1", "0/", "0:", "0`", "0@"} {
		if b, ok := script.Unhex(s); ok || len(b) != 0 {
			t.Error("P30.1: unhex of none", s)
		}
	}
}

// acts are right ones, with their lines.
func acts() map[string]api.Act {
	return map[string]api.Act{
		"build 1 7 0aff": {Kind: api.ActBuild, Mode: 1, Version: 7, Data: []byte{10, 255}}, "build 255 2147483647 .": {Kind: api.ActBuild, Mode: 255, Version: math.MaxInt32}, "build 0 0 00": {Kind: api.ActBuild, Data: []byte{0}},
		"feed 0 0": {Kind: api.ActFeed}, "feed 3 2147483647": {Kind: api.ActFeed, P: 3, N: math.MaxInt32}, "feed 2147483647 10": {Kind: api.ActFeed, P: math.MaxInt32, N: 10},
		"spoil 1 20 255": {Kind: api.ActSpoil, P: 1, N: 20, Mode: 255}, "spoil 0 0 0": {Kind: api.ActSpoil}, "fuse 12": {Kind: api.ActFuse, N: 12}, "fuse 0": {Kind: api.ActFuse},
		"fall .": {Kind: api.ActFall}, "fall 000102": {Kind: api.ActFall, Data: []byte{0, 1, 2}}, "begin": {Kind: api.ActBegin}, "commit": {Kind: api.ActCommit}, "cancel": {Kind: api.ActCancel}, "image": {Kind: api.ActImage}, "status": {Kind: api.ActStatus},
	}
}

const world = "world 128 128 4 5 . 616263\n"

// P30.1, P30.2: lines, there and back.
func TestLine(t *testing.T) {
	for line, a := range acts() {
		if got, ok := script.Line(a); !ok || got != line {
			t.Error("P30.1: line", got, line)
		}
		_, _, _, _, l, at, e := script.Parse(world + line + "\n")
		if e != api.OK || at != 0 || len(l) != 1 || !reflect.DeepEqual(normal(l[0]), normal(a)) {
			t.Error("P30.2:", line, l, at, e)
		}
	}
	bad := []api.Act{{}, {Kind: 11}, {Kind: 255}, {Kind: 0, N: 1}}
	for _, a := range []api.Act{{Kind: api.ActFeed}, {Kind: api.ActSpoil}, {Kind: api.ActFuse}, {Kind: api.ActBuild}, {Kind: api.ActImage}} {
		for _, n := range []int{-1, 1 << 31, math.MinInt, math.MaxInt} {
			b, c := a, a
			b.N, c.P = n, n
			bad = append(bad, b, c)
		}
		b := a
		b.Version = 1 << 31
		bad = append(bad, b)
	}
	tells := map[uint8]string{api.ActBuild: "MVD", api.ActFeed: "PN", api.ActSpoil: "PNM", api.ActFuse: "N", api.ActFall: "D"}
	for kind := api.ActBuild; kind <= api.ActStatus; kind++ {
		for _, f := range "MVDPN" {
			a := api.Act{Kind: kind}
			switch f {
			case 'M':
				a.Mode = 1
			case 'V':
				a.Version = 1
			case 'D':
				a.Data = []byte{0}
			case 'P':
				a.P = 1
			case 'N':
				a.N = 1
			}
			if !strings.ContainsRune(tells[kind], f) {
				bad = append(bad, a)
			} else if _, ok := script.Line(a); !ok {
				t.Error("P30.1: no line", a)
			}
		}
	}
	for _, a := range bad {
		if s, ok := script.Line(a); ok || s != "" {
			t.Error("P30.1: a line of none", a, s)
		}
	}
	if s, ok := script.Line(api.Act{Kind: api.ActBegin, Data: []byte{}}); !ok || s != "begin" {
		t.Error("P0.4: an empty list", s)
	}
}

// normal is an act with a nil list in place of an empty one.
func normal(a api.Act) api.Act {
	if len(a.Data) == 0 {
		a.Data = nil
	}
	return a
}

// P30.1: whole scripts.
func TestParse(t *testing.T) {
	c, seed, image, version, l, at, e := script.Parse("\n# a script\n#\n\nworld 128 256 3 2147483647 0a0b 61\nbegin\n\n# more\nfeed 1 2\n\n")
	if e != api.OK || at != 0 || c != (api.Disk{Sector: 128, Block: 256, Slot: 3}) || string(seed) != "\n\v" || string(image) != "a" || version != math.MaxInt32 || len(l) != 2 || l[0].Kind != api.ActBegin || l[1].N != 2 {
		t.Error("P30.1: parse", c, seed, image, version, l, at, e)
	}
	if c, _, _, _, l, at, e := script.Parse("world 0 2147483647 1 0 . .\n"); e != api.OK || at != 0 || c.Block != math.MaxInt32 || len(l) != 0 {
		t.Error("P30.1: parse of a world alone", e)
	}
}

// P30.1: which line isn't as said, and the error.
func TestParseErrors(t *testing.T) {
	for i, c := range []struct {
		text string
		line int
		want api.Errno
	}{
		{"", 0, api.ErrForm}, {"\n", 0, api.ErrForm}, {"# x\n\n", 0, api.ErrForm}, {"# x", 1, api.ErrLine}, {"\n\nx", 3, api.ErrLine}, {strings.TrimSuffix(world, "\n"), 1, api.ErrLine}, {world + "begin", 2, api.ErrLine}, {world + "\n#", 3, api.ErrLine},
		{"begin\n", 1, api.ErrKind}, {"\n#\nbegin\nx", 3, api.ErrKind}, {" \n", 1, api.ErrKind}, {" world 1 1 1 1 . .\n", 1, api.ErrKind}, {"World 1 1 1 1 . .\n", 1, api.ErrKind}, {"worlds\n", 1, api.ErrKind}, {" # x\n", 1, api.ErrKind},
		{world + world, 2, api.ErrKind}, {world + "world\n", 2, api.ErrKind}, {world + "Begin\n", 2, api.ErrKind}, {world + "begin\r\n", 2, api.ErrKind}, {world + " begin\n", 2, api.ErrKind}, {world + "\n\nfoo bar\nbegin x\n", 4, api.ErrKind}, {world + "b\n", 2, api.ErrKind},
		{"world\n", 1, api.ErrForm}, {"world 1 1 1 1 .\n", 1, api.ErrForm}, {"world 1 1 1 1 . . .\n", 1, api.ErrForm}, {"world 1 1 1 1 . . \n", 1, api.ErrForm}, {"world  1 1 1 1 . .\n", 1, api.ErrForm}, {"world 1 1 1 1 . . 1 2 3 4 5\n", 1, api.ErrForm},
		{"world 01 1 1 1 . .\n", 1, api.ErrForm}, {"world 1 -1 1 1 . .\n", 1, api.ErrForm}, {"world 1 1 +1 1 . .\n", 1, api.ErrForm}, {"world 1 1 1 2147483648 . .\n", 1, api.ErrForm}, {"world 1 1 1 99999999999999999999999999 . .\n", 1, api.ErrForm}, {"world 1 1 1 1 0 .\n", 1, api.ErrForm}, {"world 1 1 1 1 . A0\n", 1, api.ErrForm},
		{world + "begin \n", 2, api.ErrForm}, {world + "begin x\n", 2, api.ErrForm}, {world + "feed 1\n", 2, api.ErrForm}, {world + "feed 1 2 3\n", 2, api.ErrForm}, {world + "feed 1  2\n", 2, api.ErrForm}, {world + "feed 00 2\n", 2, api.ErrForm}, {world + "feed 1 0x2\n", 2, api.ErrForm},
		{world + "build 256 1 .\n", 2, api.ErrForm}, {world + "build 1 1 \n", 2, api.ErrForm}, {world + "build 1 1 0\n", 2, api.ErrForm}, {world + "spoil 1 1 256\n", 2, api.ErrForm}, {world + "spoil 1 1 2147483648\n", 2, api.ErrForm}, {world + "fuse -1\n", 2, api.ErrForm}, {world + "fuse\n", 2, api.ErrForm}, {world + "fall\n", 2, api.ErrForm}, {world + "fall 0g\n", 2, api.ErrForm},
		{world + "feed 1 1 1 1 1 1 1 1 1\n", 2, api.ErrForm}, {world + "begin\nstatus\nfeed 1 1#\n", 4, api.ErrForm}, {world + "begin\t\n", 2, api.ErrKind},
		{strings.Repeat("\n", 1001), 0, api.ErrLong}, {strings.Repeat("\n", 1000), 0, api.ErrForm}, {"x\n" + strings.Repeat("\n", 1000), 0, api.ErrLong}, {world + strings.Repeat("\n", 999) + "x", 1001, api.ErrLine},
		{strings.Repeat("#", 1<<20+1), 0, api.ErrLong}, {strings.Repeat("#", 1<<20-1) + "\n", 0, api.ErrForm}, {strings.Repeat("x", 1<<20), 1, api.ErrLine},
	} {
		d, seed, image, version, l, at, e := script.Parse(c.text)
		if e != c.want || at != c.line || d != (api.Disk{}) || len(seed)+len(image)+len(l) != 0 || version != 0 {
			t.Error("P30.1: parse", i, at, e, c.line, c.want)
		}
		if s, at, e := script.Play(c.text); s != "" || at != c.line || e != c.want {
			t.Error("P30.1: play", i, at, e)
		}
	}
	for i, c := range []struct {
		text string
		want api.Errno
	}{
		{"world 1 1 1 1 . .\nbegin\n", api.ErrArg}, {"world 128 128 1 1 . " + strings.Repeat("00", 129) + "\n", api.ErrFull}, {"world 128 128 1 1 . " + strings.Repeat("00", 128) + "\n", api.OK},
	} {
		if s, at, e := script.Play(c.text); s != "" || at != 0 || e != c.want {
			t.Error("P30.1: play", i, at, e)
		}
	}
}

// P30.1: transcripts, line by line.
func TestPlay(t *testing.T) {
	seed, old, new := []byte("seed"), bytes.Repeat([]byte("old"), 50), bytes.Repeat([]byte("newer"), 40)
	text := "world 128 128 4 5 " + script.Hex(seed) + " " + script.Hex(old) + "\n" +
		"status\nimage\nbuild 1 6 " + script.Hex(new) + "\nspoil 0 30 1\nfeed 1 99999\nstatus\nbegin\nfeed 0 100\nstatus\nfeed 0 99999\nstatus\nfuse 1\ncommit\nimage\nfall 01\nimage\nstatus\nspoil 9 0 1\ncancel\nbuild 9 1 .\n"
	w, e := updater.New(api.Disk{Sector: 128, Block: 128, Slot: 4}, seed, old, 5)
	if e != api.OK {
		t.Fatal(e)
	}
	w.Do(api.Act{Kind: api.ActBuild, Mode: 1, Version: 6, Data: new})
	size := strconv.Itoa(len(w.Package(0)))
	rest := strconv.Itoa(len(w.Package(0)) - 100)
	want := []string{
		"ok 0 0 0 5 150 0 0", "ok " + script.Hex(old), "ok 0", "ok 1", "err 9", "ok 0 0 0 5 150 0 0", "ok", "ok 100", "ok 0 0 0 5 150 0 100", "ok " + rest, "ok 3 1 0 5 150 2 " + size,
		"ok", "err 8", "err 8", "ok", "ok " + script.Hex(new), "ok 0 0 1 6 200 0 0", "err 5", "err 18", "err 1", "",
	}
	s, at, e := script.Play(text)
	if e != api.OK || at != 0 || s != strings.Join(want, "\n") {
		t.Error("P30.1: transcript", at, e, "\n"+s, "\n"+strings.Join(want, "\n"))
	}
}

// scripted is a script by chance, of so many acts.
func scripted(r *rand.Rand, many int) string {
	text := func(n int) string {
		b := make([]byte, r.Intn(n))
		for i := range b {
			b[i] = byte(r.Intn(3))
		}
		return script.Hex(b)
	}
	s := "world 128 128 4 5 " + text(9) + " " + text(400) + "\n"
	for range many {
		n := func(k int) string { return " " + strconv.Itoa(r.Intn(k)) }
		switch r.Intn(12) {
		case 0, 1:
			s += "build" + n(4) + n(12) + " " + text(500)
		case 2, 3, 4:
			s += "feed" + n(4) + n(20000)
		case 5:
			s += "begin"
		case 6:
			s += "commit"
		case 7:
			s += "cancel"
		case 8:
			s += "fuse" + n(30)
		case 9:
			s += "fall " + text(5)
		case 10:
			s += "spoil" + n(3) + n(9000) + n(256)
		case 11:
			s += "status\nimage"
		}
		s += "\n"
	}
	return s
}

// P30.3, T7: the same script comes to the same; one that goes on longer begins with it.
func TestSame(t *testing.T) {
	r := rand.New(rand.NewSource(31))
	for range 60 {
		s := scripted(r, 5+r.Intn(60))
		whole, at, e := script.Play(s)
		if e != api.OK || at != 0 || strings.Count(whole, "\n") != strings.Count(s, "\n")-1 {
			t.Fatal("P30.3:", at, e)
		}
		for range 2 {
			if again, _, _ := script.Play(s); again != whole {
				t.Fatal("T7: another transcript")
			}
		}
		lines := strings.SplitAfter(s, "\n")
		part := strings.Join(lines[:1+r.Intn(len(lines)-1)], "")
		if begin, _, e := script.Play(part); e != api.OK || !strings.HasPrefix(whole, begin) || strings.Count(begin, "\n") != strings.Count(part, "\n")-1 {
			t.Fatal("P30.3: a longer one begins otherwise", e)
		}
		if more, _, e := script.Play("# said nothing\n\n" + strings.ReplaceAll(s, "\n", "\n\n")); e != api.OK || more != whole {
			t.Fatal("P30.3: lines that say nothing", e)
		}
	}
}

// P0.1: any text.
func TestAnyText(t *testing.T) {
	r := rand.New(rand.NewSource(32))
	good := scripted(r, 20)
	for range 3000 {
		b := []byte(good)
		for range 1 + r.Intn(3) {
			b[r.Intn(len(b))] = byte(r.Intn(256))
		}
		b = b[:r.Intn(len(b)+1)]
		_, seed, image, _, l, at, e := script.Parse(string(b))
		if e != api.OK && len(seed)+len(image)+len(l) > 0 || e == api.OK && at != 0 || at > strings.Count(string(b), "\n")+1 {
			t.Fatal("P30.1: parse", at, e)
		}
		for _, a := range l {
			if line, ok := script.Line(a); !ok || !strings.Contains("\n"+string(b), "\n"+line+"\n") {
				t.Fatal("P30.2: a line that was parsed", line)
			}
		}
	}
}
