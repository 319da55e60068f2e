package tests

import (
	"fmt"
	"regexp"
	"slices"
	"strconv"
	"strings"
	"sync"
	"testing"

	"loop.example/g00675/impl"
)

// A plainScript plays all commands so far anew for each line.
type plainScript struct {
	cmds []impl.Cmd
	sent []string
}

var (
	plainBlanks = regexp.MustCompile(" +")
	placeLine   = regexp.MustCompile(`^(out|back) (0|-?[1-9][0-9]{0,15})$`)
)

func (s *plainScript) play(c impl.Cmd) string {
	s.cmds = append(s.cmds, c)
	_, answers := impl.Play(s.cmds)
	a := answers[len(answers)-1]
	if len(a.Out) > 0 {
		s.sent = a.Out
	}
	if a.Code != impl.GwOk {
		return fmt.Sprint("no ", a.Code)
	}
	if a.Data == "" {
		return fmt.Sprintf("ok %d %d", a.Id, len(a.Out))
	}
	return fmt.Sprintf("ok %d %d %x", a.Id, len(a.Out), a.Data)
}

func (s *plainScript) say(line string) string {
	g, _ := impl.Play(s.cmds)
	switch line {
	case "gate":
		return fmt.Sprintf("mtu %d now %d next %d ends %d rules %d waits %d", g.Mtu, g.Now, g.Next, len(g.Ends), len(g.Exacts)+len(g.Prefixes)+len(g.Terns), len(g.Buf.Entries))
	case "counts":
		return strings.Trim(fmt.Sprint(impl.CountsOf(s.cmds)), "[]")
	}
	if c, ok := impl.ReadCmd(line); ok {
		return s.play(c)
	}
	parts := placeLine.FindStringSubmatch(line)
	if parts == nil {
		return "what"
	}
	k, _ := strconv.Atoi(parts[2])
	if k < 0 || k >= len(s.sent) {
		return "none"
	}
	if parts[1] == "out" {
		return fmt.Sprintf("%x", s.sent[k])
	}
	turned := []byte(s.sent[k])
	for i := 12; i < 16; i++ {
		turned[i], turned[i+4] = turned[i+4], turned[i]
	}
	return s.play(wireCmd(string(turned)))
}

func plainRun(text string) string {
	lines := strings.Split(text, "\n")
	if lines[len(lines)-1] != "" || len(lines) > 41 || len(text) > 6000 {
		return tooLongSaid
	}
	var s plainScript
	out := ""
	for _, line := range lines {
		line = strings.TrimSuffix(strings.TrimPrefix(plainBlanks.ReplaceAllString(line, " "), " "), " ")
		if line != "" {
			out += s.say(line) + "\n"
		}
	}
	return out
}

// A teacher makes scripts whose lines have to do with each other.
type teacher struct {
	player
	own impl.End
}

// lines gives so many of them; of commands those that have a text.
func (m *teacher) lines(size int) []string {
	m.pieces = nil
	m.own = m.end()
	m.own.Df = m.below(3) == 0
	list := []string{plainText(endCmd(m.own)), plainText(endCmd(m.end())), plainText(macCmd(m.below(4), m.own.Id)), fmt.Sprint("mtu ", m.one(68, 68, 100, 300))}
	for len(list) < size {
		if s := m.line(); len(s) < 500 {
			list = append(list, s)
		}
	}
	return list[:size]
}

func (m *teacher) line() string {
	switch m.below(12) {
	case 0, 1:
		return m.question()
	case 2, 3, 4:
		return fmt.Sprint("back ", m.below(6)-1)
	case 5, 6:
		return plainText(frameCmd(m.frame()))
	case 7:
		return m.nonsense()
	case 8:
		return plainText(wireCmd(impl.IpBytes(m.odd())))
	}
	c := m.cmd()
	for !impl.CmdOk(c) {
		c = m.cmd()
	}
	return plainText(c)
}

// What comes to the first End with no frame in it, or as a piece of what never was.
func (m *teacher) odd() impl.Ip {
	made := plainMade(mirrored(m.own), m.below(2), m.text(int(m.below(20))))
	if m.below(2) == 0 {
		made.Off, made.Data = 1+m.below(3), m.text(int(m.below(20)))
	}
	return made
}

// A line that asks.
func (m *teacher) question() string {
	return []string{"gate", "counts", fmt.Sprint("out ", m.below(6)-1)}[m.below(3)]
}

// A line that does nothing, and says nothing or that it is none.
func (m *teacher) nonsense() string {
	return []string{"", "  ", "fly", "gate 1", "out", "out 01", "back x", "back 0 0", "mtu 67", "counts -", "frame 0", "\t", "what", "mac 1 1"}[m.below(14)]
}

// withBlanks gives a line with blanks more.
func (m *teacher) withBlanks(s string) string {
	for i := len(s); i >= 0; i-- {
		if (i == 0 || i == len(s) || s[i] == ' ') && m.below(3) == 0 {
			s = s[:i] + strings.Repeat(" ", int(m.below(4))) + s[i:]
		}
	}
	return s
}

func TestScriptsAgainstPlainOnes(t *testing.T) {
	m := teacher{player: player{maker: maker{state: 151}}}
	heads := map[string]int{}
	for range 1500 {
		list := m.lines(int(m.one(1, 10, 30, 39, 40, 40, 40, 41)))
		for i := range list {
			list[i] = m.withBlanks(list[i])
		}
		text := linesOf(list)
		if m.below(20) == 0 {
			text = text[:m.below(int64(len(text)))]
		}
		got, want := impl.RunScript(text), plainRun(text)
		if got != want {
			t.Fatalf("%q says %q, want %q", text, got, want)
		}
		for _, line := range strings.Split(want, "\n") {
			words := strings.Split(line, " ")
			heads[words[0]]++
			if words[0] == "no" {
				heads[line]++
			}
			if words[0] == "ok" && len(words) > 3 {
				heads["ok with Data"]++
			}
			if words[0] == "ok" && len(words) == 3 && words[2] != "0" {
				heads["ok with Out"]++
			}
		}
	}
	for _, head := range []string{"ok", "ok with Data", "ok with Out", "mtu", "none", "what", "too", "no 2", "no 4", "no 5", "no 6", "no 7", "no 8", "no 9", "no 10", "no 11", "no 12", "no 13", "no 14"} {
		if heads[head] < 20 {
			t.Errorf("%s was said %d times", head, heads[head])
		}
	}
}

// Whatever text it is, it is answered as the plain one does.
func TestScriptsOfAnyText(t *testing.T) {
	m := teacher{player: player{maker: maker{state: 152}}}
	for range 3000 {
		s := []byte(linesOf(m.lines(8)))
		for range 1 + m.below(6) {
			at := m.below(int64(len(s)))
			switch m.below(3) {
			case 0:
				s[at] = byte(m.below(256))
			case 1:
				s[at] = " \n\t0-9:af"[m.below(9)]
			case 2:
				s = slices.Delete(s, int(at), int(at)+1)
			}
		}
		text := string(s)
		if got, want := impl.RunScript(text), plainRun(text); got != want {
			t.Fatalf("%q says %q, want %q", text, got, want)
		}
		noise := m.text(int(m.below(200))) + "\n"
		if got, want := impl.RunScript(noise), plainRun(noise); got != want {
			t.Fatalf("%q says %q, want %q", noise, got, want)
		}
	}
}

// shortLines gives lines that are no more bytes together than may be, with so many to spare.
func (m *teacher) shortLines(size int, spare int) []string {
	for {
		if list := m.lines(size); len(linesOf(list)) <= 6000-spare {
			return list
		}
	}
}

func speaks(line string) bool {
	return strings.Trim(line, " ") != ""
}

// Promise 14: cut behind any of its lines, what the first part said is what the whole begins with, a line for each that is not blank.
func TestWhatWasSaidStaysSaid(t *testing.T) {
	m := teacher{player: player{maker: maker{state: 153}}}
	for range 100 {
		list := m.shortLines(40, 0)
		whole := impl.RunScript(linesOf(list))
		many := 0
		for i, line := range list {
			part := impl.RunScript(linesOf(list[:i]))
			if !strings.HasPrefix(whole, part) || strings.Count(part, "\n") != many {
				t.Fatalf("%q, cut behind %d lines, says %q, and the whole %q", list, i, part, whole)
			}
			if speaks(line) {
				many++
			}
		}
		if strings.Count(whole, "\n") != many {
			t.Fatalf("%q: %d lines speak, and it says %q", list, many, whole)
		}
		// With a line too many it is none any more.
		wantScript(t, linesOf(append(list, "gate")), tooLongSaid)
	}
}

// wantSilent: lines put in anywhere let all others say what they said.
func wantSilent(t *testing.T, m *teacher, more func() string) {
	t.Helper()
	list := m.shortLines(25, 500)
	want := strings.SplitAfter(impl.RunScript(linesOf(list)), "\n")
	var all []string
	var isMore []bool
	for i := 0; i < len(list); {
		puts := len(all)-i < 15 && m.below(2) == 0
		s := list[i]
		if puts {
			s = more()
		} else {
			i++
		}
		all = append(all, s)
		if speaks(s) {
			isMore = append(isMore, puts)
		}
	}
	got := strings.SplitAfter(impl.RunScript(linesOf(all)), "\n")
	if len(got) != len(isMore)+1 {
		t.Fatalf("%q says %d lines, want %d", all, len(got)-1, len(isMore))
	}
	var others []string
	for i, puts := range isMore {
		if !puts {
			others = append(others, got[i])
		}
	}
	if others = append(others, ""); !slices.Equal(others, want) {
		t.Fatalf("%q says %q, and with more lines, %q, %q", list, want, all, got)
	}
}

// Promise 14: lines that ask change nothing.
func TestLinesThatAskChangeNothing(t *testing.T) {
	m := teacher{player: player{maker: maker{state: 154}}}
	for range 400 {
		wantSilent(t, &m, m.question)
		wantSilent(t, &m, m.nonsense)
	}
}

// A command that is refused with a code ahead of GwWait changes nothing but the counts.
func TestRefusedLinesChangeNothing(t *testing.T) {
	m := teacher{player: player{maker: maker{state: 155}}}
	for range 100 {
		list := m.shortLines(25, 0)
		list = slices.DeleteFunc(list, func(s string) bool { return strings.Contains(s, "counts") || !speaks(s) })
		lines := strings.Split(impl.RunScript(linesOf(list)), "\n")
		for i := range list {
			code, isRefused := strings.CutPrefix(lines[i], "no ")
			if !isRefused || len(code) > 1 || code == "9" {
				continue
			}
			less := strings.Split(impl.RunScript(linesOf(slices.Delete(slices.Clone(list), i, i+1))), "\n")
			if !slices.Equal(less, slices.Delete(slices.Clone(lines), i, i+1)) {
				t.Fatalf("%q: line %d, %q, changes something", list, i, list[i])
			}
		}
	}
}

// What a script counts is what is counted of its commands.
func TestCountsOfScripts(t *testing.T) {
	m := teacher{player: player{maker: maker{state: 156}}}
	for range 200 {
		var cmds []impl.Cmd
		var list []string
		for _, line := range m.shortLines(39, 10) {
			if c, ok := impl.ReadCmd(line); ok {
				cmds, list = append(cmds, c), append(list, line)
			}
		}
		want := strings.Trim(fmt.Sprint(impl.CountsOf(cmds)), "[]")
		if got := impl.RunScript(linesOf(list) + "counts\n"); !strings.HasSuffix(got, "\n"+want+"\n") {
			t.Fatalf("%q says %q, want %q at the end", list, got, want)
		}
	}
}

// Promise 15, of scripts: the same text says the same, by many callers at once, in memory of its own.
func TestScriptsSayTheSame(t *testing.T) {
	m := teacher{player: player{maker: maker{state: 157}}}
	var callers sync.WaitGroup
	for range 40 {
		text := linesOf(m.shortLines(40, 0))
		want := plainRun(text)
		for range 4 {
			callers.Go(func() {
				for range 4 {
					got := impl.RunScript(text)
					if got != want || sharesBytes(got, text) {
						t.Errorf("%s says %s, want %s", brief(text), brief(got), brief(want))
					}
				}
			})
		}
	}
	callers.Wait()
	for _, text := range []string{"what\n", "none\n", "gate\n", "out 0\n", "too long\n", "ok 0 0\n", "ok 0 0", "too long"} {
		if got := impl.RunScript(text); sharesBytes(got, text) {
			t.Errorf("%q of the answer is of the script", got)
		}
	}
}
