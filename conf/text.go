package conf

import (
	"iter"
	"slices"
	"strconv"
	"strings"

	"rampart/api"
	"rampart/bits"
)

// The kinds of lines, in the order in which they come; nothing is what stands ahead of the first line.
const (
	nothing = iota - 1
	flowsLine
	tenantLine
	channelLine
	laneLine
	receiverLine
	gateLine
	frameLine
	budgetLine
)

// words are the first words of the kinds of lines.
var words = [...]string{"flows", "tenant", "channel", "lane", "receiver", "gate", "frame", "budget"}

// opensWord is the last word of a lane's or a receiver's line.
const opensWord = "opens"

// Text is settings as lines.
func Text(c api.Conf) (string, api.Errno) {
	if tooMany(c) {
		return "", api.ErrMany
	}
	return joined(lines(c), api.MaxConfText)
}

// joined is lines as one text, if it has no more bytes than it may.
func joined(lines iter.Seq[string], most int) (string, api.Errno) {
	var b strings.Builder
	for l := range lines {
		if b.Len()+len(l)+1 > most {
			return "", api.ErrLong
		}
		b.WriteString(l)
		b.WriteByte('\n')
	}
	return b.String(), api.OK
}

// tooMany tells whether settings have more of anything than has a text.
func tooMany(c api.Conf) bool {
	return len(c.Flows) > api.MaxLabels ||
		len(c.Tenants) > api.MaxTenants ||
		len(c.Channels) > api.MaxChannels ||
		len(c.Gates) > api.MaxGates ||
		len(c.Frame) > api.MaxFrame ||
		slices.ContainsFunc(c.Channels, func(ch api.Channel) bool {
			return len(ch.Lanes) > api.MaxTenants || len(ch.Receivers) > api.MaxTenants
		})
}

// lines tells the lines of settings, each without its byte 10.
func lines(c api.Conf) iter.Seq[string] {
	return func(yield func(string) bool) {
		for _, row := range c.Flows {
			if !yield(line(flowsLine, bits.List(row)...)) {
				return
			}
		}
		for _, t := range c.Tenants {
			if !yield(line(tenantLine, t.Label, t.Quota)) {
				return
			}
		}
		for _, ch := range c.Channels {
			for l := range channelLines(ch) {
				if !yield(l) {
					return
				}
			}
		}
		for _, g := range c.Gates {
			if !yield(line(gateLine, g.From, g.To, g.Room)) {
				return
			}
		}
		_ = yield(line(frameLine, c.Frame...)) && yield(line(budgetLine, c.Budget, c.Requests, c.Pending))
	}
}

// channelLines tells the lines of a channel.
func channelLines(ch api.Channel) iter.Seq[string] {
	return func(yield func(string) bool) {
		if !yield(line(channelLine, ch.Label)) {
			return
		}
		for _, l := range ch.Lanes {
			if !yield(ending(line(laneLine, l.Tenant, l.Credit), l.Opens)) {
				return
			}
		}
		for _, r := range ch.Receivers {
			if !yield(ending(line(receiverLine, r.Tenant), r.Opens)) {
				return
			}
		}
	}
}

// line is a line of a kind, with its numbers.
func line(kind int, l ...int) string {
	s := words[kind]
	for _, n := range l {
		s += " " + strconv.Itoa(n)
	}
	return s
}

// ending is a line, with the word behind it that says who may open by itself.
func ending(line string, may bool) string {
	if may {
		return line + " " + opensWord
	}
	return line
}

// Parse is the settings of a text.
func Parse(s string) (api.Conf, int, api.Errno) {
	if len(s) > api.MaxConfText {
		return api.Conf{}, 0, api.ErrLong
	}
	return read(s)
}

// misfit is what a line that does not fit panics with: its number.
type misfit int

// read is the settings of a text, or the number of the line that does not fit.
func read(s string) (c api.Conf, at int, e api.Errno) {
	defer func() {
		if r := recover(); r != nil {
			c, at, e = api.Conf{}, int(r.(misfit)), api.ErrText
		}
	}()
	r := reader{last: nothing}
	for l := range linesOf(s) {
		r.take(l)
	}
	r.must(r.last == budgetLine && strings.HasSuffix(s, "\n"))
	return r.c, 0, api.OK
}

// linesOf tells the lines of a text that have their byte 10, without it.
func linesOf(s string) iter.Seq[string] {
	return func(yield func(string) bool) {
		for rest := s; ; {
			l, behind, ok := strings.Cut(rest, "\n")
			if !ok || !yield(l) {
				return
			}
			rest = behind
		}
	}
}

// reader is settings, as far as their text is read.
type reader struct {
	c    api.Conf
	last int      // the kind of the line ahead
	line int      // how many lines are read
	left []string // the words that are left of the line that is read
}

// turn is when a line of a kind may come: behind those of the kinds from first to last; and how it is read.
type turn struct {
	first, last int
	read        func()
}

// turns are those of all kinds.
func (r *reader) turns() []turn {
	return []turn{
		flowsLine:    {nothing, flowsLine, r.flows},
		tenantLine:   {nothing, tenantLine, r.tenant},
		channelLine:  {nothing, receiverLine, r.channel},
		laneLine:     {channelLine, laneLine, r.lane},
		receiverLine: {channelLine, receiverLine, r.receiver},
		gateLine:     {nothing, gateLine, r.gate},
		frameLine:    {nothing, gateLine, r.frame},
		budgetLine:   {frameLine, frameLine, r.budget},
	}
}

// must panics, where the line that is read does not fit.
func (r *reader) must(fits bool) {
	if !fits {
		panic(misfit(r.line))
	}
}

// kindOf is the kind of the lines with a first word, or nothing.
func kindOf(word string) int {
	for kind, w := range words {
		if w == word {
			return kind
		}
	}
	return nothing
}

// take reads one line.
func (r *reader) take(l string) {
	r.left = strings.Split(l, " ")
	kind := kindOf(r.word())
	r.must(kind != nothing)
	t := r.turns()[kind]
	r.must(within(r.last, t.first, t.last))
	t.read()
	r.must(len(r.left) == 0 && !tooMany(r.c)) // settings that have too many have no text, so this is none's
	r.last = kind
	r.line++
}

// word takes the next word of the line.
func (r *reader) word() string {
	r.must(len(r.left) > 0)
	w := r.left[0]
	r.left = r.left[1:]
	return w
}

// number takes the next word of the line, which must be as its number is written.
func (r *reader) number() int {
	w := r.word()
	n, err := strconv.Atoi(w)
	r.must(err == nil && strconv.Itoa(n) == w)
	return n
}

// numbers takes all words that are left of the line.
func (r *reader) numbers() []int {
	var l []int
	for len(r.left) > 0 {
		l = append(l, r.number())
	}
	return l
}

// opens takes the last word of the line, if there is one.
func (r *reader) opens() bool {
	if len(r.left) == 0 {
		return false
	}
	r.must(r.word() == opensWord)
	return true
}

// flows reads a label's line.
func (r *reader) flows() {
	l := r.numbers()
	row, e := bits.Of(l...)
	r.must(e == api.OK && slices.Equal(bits.List(row), l)) // a set is told in one way alone, rising
	r.c.Flows = append(r.c.Flows, row)
}

// tenant reads a tenant's line.
func (r *reader) tenant() {
	r.c.Tenants = append(r.c.Tenants, api.Tenant{Label: r.number(), Quota: r.number()})
}

// channel reads a channel's line.
func (r *reader) channel() {
	r.c.Channels = append(r.c.Channels, api.Channel{Label: r.number()})
}

// current is the channel whose lanes and receivers are read; turns lets these come behind one alone.
func (r *reader) current() *api.Channel { return &r.c.Channels[len(r.c.Channels)-1] }

// lane reads a lane's line.
func (r *reader) lane() {
	ch := r.current()
	ch.Lanes = append(ch.Lanes, api.Lane{Tenant: r.number(), Credit: r.number(), Opens: r.opens()})
}

// receiver reads a receiver's line.
func (r *reader) receiver() {
	ch := r.current()
	ch.Receivers = append(ch.Receivers, api.Receiver{Tenant: r.number(), Opens: r.opens()})
}

// gate reads a gate's line.
func (r *reader) gate() {
	r.c.Gates = append(r.c.Gates, api.Gate{From: r.number(), To: r.number(), Room: r.number()})
}

// frame reads the frame's line.
func (r *reader) frame() { r.c.Frame = r.numbers() }

// budget reads the last line.
func (r *reader) budget() { r.c.Budget, r.c.Requests, r.c.Pending = r.number(), r.number(), r.number() }
