package conf

import (
	"slices"
	"strings"
	"testing"

	"rampart/api"
)

// some has a line of each kind.
func some() api.Conf {
	return api.Conf{
		Flows:   []uint64{1, 3},
		Tenants: []api.Tenant{{Label: 0, Quota: 1}, {Label: 1}},
		Channels: []api.Channel{
			{Label: 1, Lanes: []api.Lane{{Tenant: 0, Credit: 1}, {Tenant: 1}}, Receivers: []api.Receiver{{Tenant: 0}, {Tenant: 1, Opens: true}}},
			{Label: 0},
		},
		Gates: []api.Gate{{From: 1, To: 0, Room: 2}, {}},
		Frame: []int{0, 1},
	}
}

// P4.4: ErrLong. No settings have a text that long, so it is asked with a bound of its own: at it, one below it, and at the bound of each line.
func TestJoined(t *testing.T) {
	all, e := joined(lines(some()), api.MaxConfText)
	if e != api.OK || !strings.HasSuffix(all, "\nbudget 0 0 0\n") {
		t.Fatalf("joined = %q, %d", all, e)
	}
	for most := range len(all) {
		if s, e := joined(lines(some()), most); s != "" || e != api.ErrLong {
			t.Errorf("joined, of at most %d bytes = %q, %d", most, s, e)
		}
	}
	for _, most := range []int{len(all), len(all) + 1} {
		if s, e := joined(lines(some()), most); s != all || e != api.OK {
			t.Errorf("joined, of at most %d bytes = %q, %d", most, s, e)
		}
	}
}

// Lines are told as far as they are ranged over, and again from the first one on.
func TestLinesStop(t *testing.T) {
	all := slices.Collect(lines(some()))
	text := strings.Join(all, "\n") + "\n"
	read := linesOf(text)
	for n := range all {
		var told, heard []string
		for l := range lines(some()) {
			told = append(told, l)
			if len(told) == n+1 {
				break
			}
		}
		for l := range read {
			heard = append(heard, l)
			if len(heard) == n+1 {
				break
			}
		}
		if !slices.Equal(told, all[:n+1]) || !slices.Equal(heard, all[:n+1]) {
			t.Errorf("the first %d lines: %q and %q", n+1, told, heard)
		}
	}
}
