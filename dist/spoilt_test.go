package dist

import (
	"errors"
	"testing"

	"cheesepress/api"
)

// The errors of a reader wrap those of package api; the first one is kept.
func TestSpoilt(t *testing.T) {
	r := reader{probs: []int{4, 0}}
	r.meet(api.OK)
	if r.err != nil {
		t.Fatalf("no error has become %v", r.err)
	}
	r.meet(api.ErrShort)
	r.meet(api.ErrAccuracy)
	if !errors.Is(r.err, api.ErrShort) || errors.Is(r.err, api.ErrAccuracy) || r.err.Error() != "short behind 2 probabilities" {
		t.Errorf("the error is %v", r.err)
	}
}
