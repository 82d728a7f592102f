package conf_test

import (
	"fmt"
	"math"
	"reflect"
	"strings"
	"testing"

	"rampart/api"
	"rampart/conf"
)

// smallText has a line of each kind, of settings that may not be.
const smallText = "flows 0 63\nflows\ntenant -1 2\nchannel 3\nlane 4 -5\nlane 6 7 opens\nreceiver 8\nreceiver 9 opens\ngate 1 2 3\nframe 0 10\nbudget 1 2 3\n"

// small is the settings of smallText.
func small() api.Conf {
	return api.Conf{
		Flows:   []uint64{1<<63 + 1, 0},
		Tenants: []api.Tenant{{Label: -1, Quota: 2}},
		Channels: []api.Channel{{
			Label:     3,
			Lanes:     []api.Lane{{Tenant: 4, Credit: -5}, {Tenant: 6, Credit: 7, Opens: true}},
			Receivers: []api.Receiver{{Tenant: 8}, {Tenant: 9, Opens: true}},
		}},
		Gates: []api.Gate{{From: 1, To: 2, Room: 3}},
		Frame: []int{0, 10}, Budget: 1, Requests: 2, Pending: 3,
	}
}

// someTexts are texts of settings, with what they are of.
func someTexts() map[string]api.Conf {
	return map[string]api.Conf{
		exampleText:               example(),
		smallText:                 small(),
		"frame\nbudget 0 0 0\n":   {},
		"frame 5\nbudget 0 0 0\n": {Frame: []int{5}},
		"channel 0\nchannel -7\nreceiver 1\nchannel 2\nlane 0 0\nframe\nbudget -1 0 10\n": {
			Channels: []api.Channel{{}, {Label: -7, Receivers: []api.Receiver{{Tenant: 1}}}, {Label: 2, Lanes: []api.Lane{{}}}},
			Budget:   -1, Pending: 10,
		},
		"flows 9 10\ngate 0 -1 -10\nframe -1 0 -1\nbudget 9223372036854775807 -9223372036854775808 100\n": {
			Flows: []uint64{1<<9 + 1<<10},
			Gates: []api.Gate{{From: 0, To: -1, Room: -10}},
			Frame: []int{-1, 0, -1}, Budget: math.MaxInt, Requests: math.MinInt, Pending: 100,
		},
	}
}

// P4.4

func TestTexts(t *testing.T) {
	for s, c := range someTexts() {
		if got, e := conf.Text(c); got != s || e != api.OK {
			t.Errorf("Text(%+v) = %q, %d; want %q", c, got, e, s)
		}
		got, n, e := conf.Parse(s)
		if n != 0 || e != api.OK || !conf.Same(got, c) || plainText(got) != s {
			t.Errorf("Parse(%q) = %+v, %d, %d; want %+v", s, got, n, e, c)
		}
	}
}

func TestTextPlain(t *testing.T) {
	for _, c := range append(append(someGood(t), someBad(t)...), twice()) {
		if s, e := conf.Text(c); s != plainText(c) || e != api.OK {
			t.Fatalf("Text(%+v) = %q, %d; want %q", c, s, e, plainText(c))
		}
	}
}

// The greatest text that there is has 52796 bytes: none is too long.
func TestTextLength(t *testing.T) {
	s, e := conf.Text(strange())
	if e != api.OK || len(s) != 52796 || s != plainText(strange()) {
		t.Errorf("Text of the greatest settings: %d bytes, %d", len(s), e)
	}
	if c, n, e := conf.Parse(s); n != 0 || e != api.OK || !conf.Same(c, strange()) {
		t.Errorf("Parse of the greatest text: %d, %d", n, e)
	}
}

func TestTextMany(t *testing.T) {
	for _, x := range []struct {
		name string
		most int
		make func(*api.Conf, int)
	}{
		{"labels", 16, func(c *api.Conf, n int) { c.Flows = make([]uint64, n) }},
		{"tenants", 16, func(c *api.Conf, n int) { c.Tenants = make([]api.Tenant, n) }},
		{"channels", 32, func(c *api.Conf, n int) { c.Channels = make([]api.Channel, n) }},
		{"gates", 16, func(c *api.Conf, n int) { c.Gates = make([]api.Gate, n) }},
		{"ticks", 64, func(c *api.Conf, n int) { c.Frame = make([]int, n) }},
		{"lanes", 16, func(c *api.Conf, n int) { c.Channels[0].Lanes = make([]api.Lane, n) }},
		{"receivers", 16, func(c *api.Conf, n int) { c.Channels[2].Receivers = make([]api.Receiver, n) }},
	} {
		for _, n := range []int{0, 1, x.most - 1, x.most} {
			c := wide()
			x.make(&c, n)
			if s, e := conf.Text(c); e != api.OK || s != plainText(c) {
				t.Errorf("Text of %d %s = %q, %d", n, x.name, s, e)
			}
		}
		for _, n := range []int{x.most + 1, 2 * x.most, 256, 65536} {
			c := wide()
			x.make(&c, n)
			if s, e := conf.Text(c); e != api.ErrMany || s != "" {
				t.Errorf("Text of %d %s = %q, %d", n, x.name, s, e)
			}
		}
	}
}

// ErrMany stands ahead of ErrLong: settings with so much that their text would be too long.
func TestTextManyFirst(t *testing.T) {
	c := strange()
	c.Frame = make([]int, 65536)
	if s, e := conf.Text(c); e != api.ErrMany || s != "" {
		t.Errorf("Text = %d bytes, %d", len(s), e)
	}
}

// wrongText is a text that is none of settings, and the line that tells it.
type wrongText struct {
	s string
	n int
}

// wrongLine puts a line in the place of another one of smallText, and so parts from it there.
func wrongLine(n int, l string) wrongText {
	lines := strings.SplitAfter(smallText, "\n")
	lines[n] = l
	return wrongText{strings.Join(lines, ""), n}
}

// wrongLines are lines that part from what each kind of line is.
func wrongLines() []wrongText {
	var l []wrongText
	for n, line := range strings.SplitAfter(strings.TrimSuffix(smallText, "\n"), "\n") {
		line = strings.TrimSuffix(line, "\n")
		words := strings.Split(line, " ")
		for _, x := range []string{
			"", " ", " " + line, line + " ", line + "\t", line + "\r", line + "\x00", line + " x", line + " opens opens",
			strings.ToUpper(line), line[1:], "x" + line, "x", "flow", "flows\t0", strings.ReplaceAll(line, " ", "\t"), strings.Replace(line, " ", "  ", 1) + " ",
			words[0] + "s 1", words[0] + " x", words[0] + " opens x", words[0] + "  ", words[0] + ".",
		} {
			l = append(l, wrongLine(n, x+"\n"))
		}
		for i := range words[1:] {
			for _, w := range []string{"", "00", "01", "-0", "+1", "-01", "+0", "--1", "-", "1-", "1_0", "0x1", "1e1", "1.0", "a", "\u0663", "9223372036854775808", "-9223372036854775809", "18446744073709551616", "99999999999999999999999", "opens ", " opens", "Opens"} {
				changed := append([]string(nil), words...)
				changed[i+1] = w
				l = append(l, wrongLine(n, strings.Join(changed, " ")+"\n"))
			}
			l = append(l, wrongLine(n, strings.Join(words[:i+1], " ")+"  "+strings.Join(words[i+1:], " ")+"\n")) // a blank too many
			l = append(l, wrongLine(n, strings.Join(words[:i+1], " ")+strings.Join(words[i+1:], " ")+"\n"))      // one too few
		}
	}
	return l
}

func TestParseWrongLines(t *testing.T) {
	right := 0
	for _, x := range wrongLines() {
		c, n, e := conf.Parse(x.s)
		if _, ok := plainParse(x.s); ok { // a blank too few may make another number of two
			right++
			if e != api.OK || plainText(c) != x.s {
				t.Errorf("Parse(%q) = %d, %d", x.s, n, e)
			}
			continue
		}
		if n != x.n || e != api.ErrText || !conf.Same(c, api.Conf{}) {
			t.Errorf("Parse(%q) = %+v, %d, %d; want %d", x.s, c, n, e, x.n)
		}
	}
	if right > 5 {
		t.Errorf("%d texts that are right are too many", right)
	}
}

func TestParseWrong(t *testing.T) {
	long := func(word string, n int) string { return strings.Repeat(word, n) }
	head := "frame\nbudget 0 0 0\n"
	for _, x := range []wrongText{
		{"", 0},
		{"\n", 0},
		{"x", 0},
		{"frame", 0},
		{"frame\n", 1},
		{"frame\nbudget 0 0 0", 1},
		{"frame\nbudget 0 0 0\n\n", 2},
		{"frame\nbudget 0 0 0\nx", 2},
		{"frame\nbudget 0 0 0\n ", 2},
		{head + head, 2},
		{head + "budget 0 0 0\n", 2},
		{"budget 0 0 0\n", 0},
		{"budget 0 0 0\nframe\n", 0},
		{"frame\nframe\nbudget 0 0 0\n", 1},
		{"frame\r\nbudget 0 0 0\r\n", 0},
		{"\ufeffframe\nbudget 0 0 0\n", 0},
		{"flows 0\n", 1},
		{"flows 0\ntenant 0 0\nframe 0\n", 3},
		{"flows 0\ntenant 0 0\nframe 0", 2},
		{"flows 0\ntenant 0 0 0\nframe 0", 1},
		// members that do not rise, or are none
		{"flows 1 0\n" + head, 0},
		{"flows 0 0\n" + head, 0},
		{"flows 0 1 1 2\n" + head, 0},
		{"flows 0 2 1\n" + head, 0},
		{"flows 64\n" + head, 0},
		{"flows\nflows 63 64\n" + head, 1},
		{"flows -1\n" + head, 0},
		{"flows -1 0\n" + head, 0},
		{"flows 9223372036854775807\n" + head, 0},
		// lines out of their order
		{"tenant 0 0\nflows 0\n" + head, 1},
		{"channel 0\nflows 0\n" + head, 1},
		{"channel 0\ntenant 0 0\n" + head, 1},
		{"channel 0\nlane 0 0\ntenant 0 0\n" + head, 2},
		{"channel 0\nlane 0 0\nflows\n" + head, 2},
		{"channel 0\nreceiver 0\nflows\n" + head, 2},
		{"channel 0\nreceiver 0\ntenant 0 0\n" + head, 2},
		{"channel 0\nreceiver 0\nlane 0 1\n" + head, 2},
		{"channel 0\nlane 0 1\nreceiver 0\nlane 0 1\n" + head, 3},
		{"lane 0 1\n" + head, 0},
		{"receiver 0\n" + head, 0},
		{"flows\nlane 0 1\n" + head, 1},
		{"flows\nreceiver 0\n" + head, 1},
		{"tenant 0 0\nlane 0 1\n" + head, 1},
		{"tenant 0 0\nreceiver 0\n" + head, 1},
		{"channel 0\ngate 0 0 0\nlane 0 1\n" + head, 2},
		{"channel 0\ngate 0 0 0\nreceiver 0\n" + head, 2},
		{"gate 0 0 0\nflows\n" + head, 1},
		{"gate 0 0 0\ntenant 0 0\n" + head, 1},
		{"gate 0 0 0\nchannel 0\n" + head, 1},
		{"gate 0 0 0\nbudget 0 0 0\n", 1},
		{"flows\nbudget 0 0 0\n", 1},
		{"tenant 0 0\nbudget 0 0 0\n", 1},
		{"channel 0\nbudget 0 0 0\n", 1},
		{"frame\nflows\n", 1},
		{"frame\ntenant 0 0\n", 1},
		{"frame\nchannel 0\n", 1},
		{"frame\nlane 0 1\n", 1},
		{"frame\nreceiver 0\n", 1},
		{"frame\ngate 0 0 0\n", 1},
		{"channel 0\nframe\nlane 0 1\n", 2},
		{head + "flows\n", 2},
		{head + "gate 0 0 0\n", 2},
		// numbers missing, and too many
		{"tenant 0\n" + head, 0},
		{"tenant\n" + head, 0},
		{"tenant 0 0 opens\n" + head, 0},
		{"channel\n" + head, 0},
		{"channel 0 0\n" + head, 0},
		{"channel 0 opens\n" + head, 0},
		{"channel 0\nlane 0\n" + head, 1},
		{"channel 0\nlane 0 opens\n" + head, 1},
		{"channel 0\nlane 0 0 0\n" + head, 1},
		{"channel 0\nlane 0 0 open\n" + head, 1},
		{"channel 0\nlane 0 0 openss\n" + head, 1},
		{"channel 0\nlane 0 0 opens 0\n" + head, 1},
		{"channel 0\nlane opens 0 0\n" + head, 1},
		{"channel 0\nreceiver\n" + head, 1},
		{"channel 0\nreceiver opens\n" + head, 1},
		{"channel 0\nreceiver 0 0\n" + head, 1},
		{"channel 0\nreceiver 0 opens opens\n" + head, 1},
		{"gate 0 0\n" + head, 0},
		{"gate 0 0 0 0\n" + head, 0},
		{"frame opens\n", 0},
		{"frame\nbudget 0 0\n", 1},
		{"frame\nbudget 0 0 0 0\n", 1},
		{"frame\nbudget\n", 1},
		// one more than a text has
		{long("flows\n", 17) + head, 16},
		{long("tenant 0 0\n", 17) + head, 16},
		{long("channel 0\n", 33) + head, 32},
		{"channel 0\n" + long("lane 0 0\n", 17) + head, 17},
		{"channel 0\nlane 0 0\nchannel 0\n" + long("receiver 0\n", 17) + head, 19},
		{long("gate 0 0 0\n", 17) + head, 16},
		{"flows\nframe" + long(" 0", 65) + "\nbudget 0 0 0\n", 1},
	} {
		if c, n, e := conf.Parse(x.s); n != x.n || e != api.ErrText || !conf.Same(c, api.Conf{}) {
			t.Errorf("Parse(%q) = %+v, %d, %d; want %d", x.s, c, n, e, x.n)
		}
		if n, ok := plainParse(x.s); ok || n != x.n {
			t.Errorf("plainly %q parts at %d, %t", x.s, n, ok)
		}
	}
}

// As many of everything as a text has, and then one more of each.
func TestParseLimits(t *testing.T) {
	full := strings.Repeat("flows 0\n", 16) + strings.Repeat("tenant 0 0\n", 16) +
		strings.Repeat("channel 0\n"+strings.Repeat("lane 0 0\n", 16)+strings.Repeat("receiver 0\n", 16), 32) +
		strings.Repeat("gate 0 0 0\n", 16) + "frame" + strings.Repeat(" 7", 64) + "\nbudget 0 0 0\n"
	if c, n, e := conf.Parse(full); n != 0 || e != api.OK || plainText(c) != full {
		t.Errorf("Parse = %d, %d", n, e)
	}
	lines := strings.SplitAfter(full, "\n")
	for _, x := range []struct {
		n    int
		line string
	}{
		{16, "flows 0\n"},
		{32, "tenant 0 0\n"},
		{32 + 17, "lane 0 0\n"},
		{32 + 33, "receiver 0\n"},
		{32 + 31*33 + 17, "lane 0 0\n"},
		{32 + 32*33, "receiver 0\n"},
		{32 + 32*33, "channel 0\n"},
		{32 + 32*33 + 16, "gate 0 0 0\n"},
	} {
		s := strings.Join(lines[:x.n], "") + x.line + strings.Join(lines[x.n:], "")
		if c, n, e := conf.Parse(s); n != x.n || e != api.ErrText || !conf.Same(c, api.Conf{}) {
			t.Errorf("%q too many: Parse = %d, %d; want %d", x.line, n, e, x.n)
		}
	}
	s := strings.Replace(full, " 7\n", " 7 7\n", 1)
	if _, n, e := conf.Parse(s); n != len(lines)-3 || e != api.ErrText {
		t.Errorf("a tick too many: Parse = %d, %d; want %d", n, e, len(lines)-3)
	}
}

// Numbers of the greatest and least ints stand in all places of a text, and none beyond them.
func TestParseInts(t *testing.T) {
	for _, form := range []string{"tenant %s 0", "tenant 0 %s", "channel %s", "channel 0\nlane %s 0", "channel 0\nlane 0 %s", "channel 0\nlane 0 %s opens", "channel 0\nreceiver %s", "channel 0\nreceiver %s opens", "gate %s 0 0", "gate 0 %s 0", "gate 0 0 %s", "frame %s\nbudget 0 0 0", "frame 0 %s\nbudget 0 0 0", "frame\nbudget %s 0 0", "frame\nbudget 0 %s 0", "frame\nbudget 0 0 %s"} {
		rest := "\n"
		if !strings.Contains(form, "frame") {
			rest += "frame\nbudget 0 0 0\n"
		}
		for _, w := range []string{"0", "1", "-1", "9", "10", "-10", "9223372036854775807", "-9223372036854775808", "4294967296", "-2147483649"} {
			s := fmt.Sprintf(form, w) + rest
			if c, n, e := conf.Parse(s); n != 0 || e != api.OK || plainText(c) != s {
				t.Errorf("Parse(%q) = %+v, %d, %d", s, c, n, e)
			}
		}
		line := strings.Count(form[:strings.Index(form, "%")], "\n")
		for _, w := range []string{"-0", "+1", "01", "", "-", "9223372036854775808", "-9223372036854775809", "18446744073709551617", "-18446744073709551617", strings.Repeat("9", 1000), strings.Repeat("0", 1000)} {
			s := fmt.Sprintf(form, w) + rest
			if c, n, e := conf.Parse(s); n != line || e != api.ErrText || !conf.Same(c, api.Conf{}) {
				t.Errorf("Parse(%q) = %+v, %d, %d; want %d", s, c, n, e, line)
			}
		}
	}
}

func TestParseLong(t *testing.T) {
	for _, x := range []struct {
		s string
		n int
	}{
		{strings.Repeat("x", 65536), 0},
		{strings.Repeat("\n", 65536), 0},
		{strings.Repeat("flows\n", 10922) + "flow", 16},
		{"flows" + strings.Repeat(" ", 65530) + "\n", 0},
		{"frame" + strings.Repeat(" 0", 32765) + "\n", 0},
		{exampleText + strings.Repeat("x", 65536-len(exampleText)), 9},
		{exampleText + strings.Repeat("\n", 65536-len(exampleText)), 9},
		{"flows\nframe " + strings.Repeat("0", 65536-12), 1},
	} {
		if len(x.s) != 65536 {
			t.Fatalf("%q..: %d bytes", x.s[:20], len(x.s))
		}
		if c, n, e := conf.Parse(x.s); n != x.n || e != api.ErrText || !conf.Same(c, api.Conf{}) {
			t.Errorf("Parse(%q..) = %d, %d; want %d", x.s[:20], n, e, x.n)
		}
		if c, n, e := conf.Parse(x.s + "\n"); n != 0 || e != api.ErrLong || !conf.Same(c, api.Conf{}) {
			t.Errorf("Parse(%q..) of 65537 bytes = %d, %d", x.s[:20], n, e)
		}
		if _, n, e := conf.Parse(x.s + x.s); n != 0 || e != api.ErrLong {
			t.Errorf("Parse(%q..) of 131072 bytes = %d, %d", x.s[:20], n, e)
		}
	}
}

// spoiled tells a text with each of its bytes left out, and with bytes put in or in the place of it.
func spoiled(s string, tell func(string)) {
	for i := range len(s) + 1 {
		tell(s[:i])
		tell(s[i:])
		for _, x := range []string{" ", "\n", "0", "1", "9", "-", "+", "x", "opens", " opens", "\x00", "\xff", "flows\n", "frame\n", "channel 0\n", "lane 0 1\n", "receiver 0\n", "gate 0 0 0\n", "tenant 0 0\n", "budget 0 0 0\n"} {
			tell(s[:i] + x + s[i:])
			if i < len(s) {
				tell(s[:i] + x + s[i+1:])
			}
		}
		if i < len(s) {
			tell(s[:i] + s[i+1:])
		}
	}
	lines := strings.SplitAfter(s, "\n")
	for i := range lines {
		for j := range lines { // a line told twice, or at another place
			tell(strings.Join(lines[:i], "") + lines[j] + strings.Join(lines[i:], ""))
			swapped := append([]string(nil), lines...)
			swapped[i], swapped[j] = swapped[j], swapped[i]
			tell(strings.Join(swapped, ""))
		}
	}
}

func TestParseSpoiled(t *testing.T) {
	right, wrong := 0, 0
	for s := range someTexts() {
		spoiled(s, func(s string) {
			c, n, e := conf.Parse(s)
			m, ok := plainParse(s)
			if !ok {
				wrong++
				if n != m || e != api.ErrText || !conf.Same(c, api.Conf{}) {
					t.Fatalf("Parse(%q) = %+v, %d, %d; want %d", s, c, n, e, m)
				}
				return
			}
			right++
			if n != 0 || e != api.OK || plainText(c) != s {
				t.Fatalf("Parse(%q) = %+v, %d, %d", s, c, n, e)
			}
			if u, e := conf.Text(c); u != s || e != api.OK { // P4.5
				t.Fatalf("Text of Parse(%q) = %q, %d", s, u, e)
			}
		})
	}
	if right < 500 || wrong < 10000 {
		t.Errorf("%d texts that are right and %d that are wrong are too few", right, wrong)
	}
}

// P4.5

func TestThereAndBack(t *testing.T) {
	for _, c := range append(append(someGood(t), someBad(t)...), twice(), small()) {
		s, e := conf.Text(c)
		if e != api.OK {
			t.Fatalf("Text(%+v): %d", c, e)
		}
		r, n, e := conf.Parse(s)
		if n != 0 || e != api.OK || !conf.Same(r, c) || !reflect.DeepEqual(clone(r), clone(c)) {
			t.Fatalf("Parse of Text(%+v) = %+v, %d, %d", c, r, n, e)
		}
		if u, e := conf.Text(r); u != s || e != api.OK {
			t.Fatalf("Text of Parse(%q) = %q, %d", s, u, e)
		}
	}
}

// P4.4, Same

// changes tells settings with one thing of them changed: each number, each bool, each list longer and shorter.
func changes(c api.Conf, tell func(api.Conf)) {
	made := clone(c)
	change(reflect.ValueOf(&made).Elem(), func() { tell(made) })
}

func change(v reflect.Value, tell func()) {
	was := reflect.New(v.Type()).Elem()
	was.Set(v)
	switch v.Kind() {
	case reflect.Int:
		for _, n := range []int64{v.Int() + 1, v.Int() - 1, v.Int() ^ math.MinInt64, v.Int() ^ 1<<40} {
			v.SetInt(n)
			tell()
			v.Set(was)
		}
	case reflect.Uint64:
		for _, bit := range []int{0, 5, 31, 32, 63} {
			v.SetUint(v.Uint() ^ 1<<bit)
			tell()
			v.Set(was)
		}
	case reflect.Bool:
		v.SetBool(!v.Bool())
		tell()
	case reflect.Slice:
		v.Set(reflect.Append(v, reflect.Zero(v.Type().Elem())))
		tell()
		v.Set(was)
		if v.Len() > 0 {
			v.Set(v.Slice(0, v.Len()-1))
			tell()
			v.Set(was)
			v.Set(v.Slice(1, v.Len()))
			tell()
			v.Set(was)
		}
		for i := range v.Len() {
			change(v.Index(i), tell)
		}
	case reflect.Struct:
		for i := range v.NumField() {
			change(v.Field(i), tell)
		}
	}
	v.Set(was)
}

func TestSame(t *testing.T) {
	for _, c := range append(someGood(t)[:20], api.Conf{}, small(), strange(), twice()) {
		if !conf.Same(c, c) || !conf.Same(c, clone(c)) || !conf.Same(clone(c), c) {
			t.Errorf("%+v is not the same as itself", c)
		}
		changed := 0
		changes(c, func(d api.Conf) {
			changed++
			if conf.Same(c, d) || conf.Same(d, c) {
				t.Errorf("%+v and %+v are the same", c, d)
			}
		})
		if changed < 17 {
			t.Errorf("%d changes are too few", changed)
		}
	}
}

// Rule 4: nil and empty lists are the same.
func TestSameEmpty(t *testing.T) {
	c := api.Conf{Flows: []uint64{}, Tenants: []api.Tenant{}, Channels: []api.Channel{}, Gates: []api.Gate{}, Frame: []int{}}
	if !conf.Same(c, api.Conf{}) || !conf.Same(api.Conf{}, c) {
		t.Error("empty and nil lists are not the same")
	}
	c = api.Conf{Channels: []api.Channel{{Lanes: []api.Lane{}, Receivers: []api.Receiver{}}}}
	d := api.Conf{Channels: []api.Channel{{}}}
	if !conf.Same(c, d) || !conf.Same(d, c) {
		t.Error("channels with empty and nil lists are not the same")
	}
}
