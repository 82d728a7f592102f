package arena

import (
	"math"
	"testing"

	"rampart/api"
)

// P6.2: the generation behind the last one of 64 bits is 0: what goes beyond is lost. No caller can free so often, so the generation is set here.
func TestGenerationComesRound(t *testing.T) {
	a, _ := New(1, 3)
	s := api.Slot{N: 2, Gen: math.MaxUint64}
	a.parts[1].gens[1] = s.Gen
	a.Alloc(1)
	if got, e := a.Alloc(1); got != s || e != api.OK {
		t.Fatalf("Alloc(1) = %v, %d", got, e)
	}
	if e := a.Write(s, 5); e != api.OK {
		t.Errorf("Write(%v) = %d", s, e)
	}
	if e := a.Free(s); e != api.OK {
		t.Errorf("Free(%v) = %d", s, e)
	}
	if x, gen, held := a.Look(2); x != 0 || gen != 0 || held {
		t.Errorf("Look(2) = %d, %d, %v", x, gen, held)
	}
	if e := a.Free(s); e != api.ErrSlot {
		t.Errorf("Free(%v) again = %d", s, e)
	}
	a.Alloc(1)
	if got, e := a.Alloc(1); got != (api.Slot{N: 2}) || e != api.OK {
		t.Errorf("Alloc(1) behind it = %v, %d", got, e)
	}
}
