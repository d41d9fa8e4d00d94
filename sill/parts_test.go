package sill

import (
	"math"
	"math/rand"
	"reflect"
	"slices"
	"testing"

	"sill/api"
)

// Each kind of part, with panes that come and go by chance, held against the
// events that are in the window.
func TestPartsSlide(t *testing.T) {
	for seed := range int64(200) {
		r := rand.New(rand.NewSource(seed))
		parts := newParts()
		var inside [][]api.Item
		var panes []*pane
		for range 100 {
			if len(panes) > 0 && r.Intn(5) < 2 {
				leaveAll(parts, panes[0])
				inside, panes = inside[1:], panes[1:]
			} else {
				items := chanceItems(r)
				p := newPane(windows{})
				for _, i := range items {
					p.add(i)
				}
				for _, part := range parts {
					part.enter(p)
				}
				inside, panes = append(inside, items), append(panes, p)
			}
			if len(panes) == 0 {
				continue
			}
			if got, want := told("k", 7, parts), slowTold("k", 7, slices.Concat(inside...)); !reflect.DeepEqual(got, want) {
				t.Fatalf("seed %d: told %+v, want %+v", seed, got, want)
			}
		}
		for _, p := range panes {
			leaveAll(parts, p)
		}
		if want := newParts(); !reflect.DeepEqual(told("", 0, parts), told("", 0, want)) {
			t.Errorf("when all had gone there was left %+v", told("", 0, parts))
		}
	}
}

func leaveAll(parts []part, p *pane) {
	for _, part := range parts {
		part.leave(p)
	}
}

func chanceItems(r *rand.Rand) []api.Item {
	edges := []int64{math.MinInt64, math.MaxInt64, 0, -1, 1}
	items := make([]api.Item, 1+r.Intn(4))
	for k := range items {
		items[k] = api.Item{Value: int64(r.Intn(1000) - 500), Tag: uint32(r.Intn(12))}
		if r.Intn(20) == 0 {
			items[k].Value = edges[r.Intn(len(edges))]
		}
	}
	return items
}

func slowTold(key string, start int64, items []api.Item) api.Window {
	var values []int64
	var tags []uint32
	sum := int64(0)
	for _, i := range items {
		values = append(values, i.Value)
		tags = append(tags, i.Tag)
		sum += i.Value
	}
	slices.Sort(tags)
	return api.Window{
		Key: key, Start: start, Count: len(items), Sum: sum,
		Min: slices.Min(values), Max: slices.Max(values), Tags: slices.Compact(tags),
	}
}

// A pane that comes into a window and goes from it is not changed by that.
func TestPanesStayAsTheyAre(t *testing.T) {
	parts := newParts()
	one, other := newPane(windows{}), newPane(windows{first: 1, last: 1})
	one.add(api.Item{Value: 5, Tag: 1})
	other.add(api.Item{Value: 3, Tag: 1})
	other.add(api.Item{Value: 9, Tag: 2})
	for _, p := range parts {
		p.enter(one)
		p.enter(other)
		p.leave(one)
	}
	if want := (pane{count: 1, sum: 5, values: span{5, 5}, tags: map[uint32]struct{}{1: {}}}); !reflect.DeepEqual(*one, want) {
		t.Errorf("the pane that went is %+v", *one)
	}
	if want := (pane{windows: windows{1, 1}, count: 2, sum: 12, values: span{3, 9}, tags: map[uint32]struct{}{1: {}, 2: {}}}); !reflect.DeepEqual(*other, want) {
		t.Errorf("the pane that is inside is %+v", *other)
	}
}
