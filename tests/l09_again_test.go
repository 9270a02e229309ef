package tests

import (
	"testing"

	"loop.example/g01105/impl"
)

// TestPassesAgain compares each pass with another way, in which instructions know those at their places.
func TestPassesAgain(t *testing.T) {
	for _, p := range passes() {
		changed := 0
		for _, a := range codesToOptimise(1200) {
			got, ok := p.change(a)
			want := p.again(linksOf(a)).annotated(a)
			same(t, p.name+" of "+shown(a), results(got, ok), results(want, true))
			if textOfCode(t, a) != textOfCode(t, want) {
				changed++
			}
		}
		if changed < 600 {
			t.Errorf("%s changes only %d codes", p.name, changed)
		}
	}
}

// TestBadCodesToOptimise calls the passes with code that is not annotated code.
func TestBadCodesToOptimise(t *testing.T) {
	for _, p := range passes() {
		for _, a := range badAnnotated() {
			got, ok := p.change(a)
			fails(t, p.name, got, ok)
		}
	}
}

// TestGoodCodesToOptimise calls the passes with code at the limits.
func TestGoodCodesToOptimise(t *testing.T) {
	for _, p := range passes() {
		for _, a := range validAnnotated() {
			got, ok := p.change(a)
			same(t, p.name, ok && impl.ValidAnnotated(got), true)
			same(t, p.name, results(got.Pre, got.Post, len(got.Points)), results(a.Pre, a.Post, len(a.Points)))
		}
	}
}
