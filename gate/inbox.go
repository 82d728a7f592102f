package gate

import "rampart/api"

// inbox is what waits for a tenant, in the order in which it came.
type inbox []api.Entry

// grant is a grant's entry.
func grant(channel int, handle uint32) api.Entry {
	return api.Entry{Grant: true, A: channel, Handle: handle}
}

// release is a release's entry.
func release(gate int, payload uint64) api.Entry { return api.Entry{A: gate, Payload: payload} }

// grants is how many grants wait: an entry is one, if it is just what a grant of its handle would be. They are counted, as only what waits is kept.
func (b inbox) grants() int {
	n := 0
	for _, x := range b {
		if x == grant(x.A, x.Handle) {
			n++
		}
	}
	return n
}

// room tells whether a grant more may wait.
func (b inbox) room() bool { return b.grants() < api.MaxWaiting }

// rest is all behind the first entry. Its bound has the next entry be laid in new memory, which holds nothing of what was polled.
func (b inbox) rest() inbox { return b[1:len(b):len(b)] }
