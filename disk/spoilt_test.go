package disk_test

import (
	"math/rand"
	"testing"

	"modality/api"
	"modality/disk"
)

// spoil changes one thing of an image by chance: what comes out may still be a disk's.
func spoil(r *rand.Rand, img *api.DiskImage) {
	name := []string{"a", "b", "c", "d", "slot.a", "B", ""}[r.Intn(7)]
	id := uint64(r.Int63n(int64(img.Next) + 2))
	switch k := r.Intn(8); {
	case k == 0:
		img.Config = api.DiskConfig{Blocks: r.Intn(9) - 1, Names: r.Intn(6)}
	case k == 1:
		img.Next = id
	case k == 2 && len(img.Nodes) > 0:
		img.Nodes[r.Intn(len(img.Nodes))].Id = id
	case k == 3 && len(img.Nodes) > 0:
		n := &img.Nodes[r.Intn(len(img.Nodes))]
		n.Changes = append(n.Changes, api.DiskChange{Cut: r.Intn(2) == 0, Len: r.Intn(9) - 2, Data: []byte("xyz")[:r.Intn(4)]})
	case k == 4 && len(img.Dir) > 0:
		img.Dir[r.Intn(len(img.Dir))] = api.DiskLink{Name: name, Id: id}
	case k == 5 && len(img.Turns) > 0:
		i := r.Intn(len(img.Turns))
		img.Turns = append(img.Turns[:i], img.Turns[i+1:]...)
	case k == 6 && len(img.Turns) > 0:
		img.Turns[r.Intn(len(img.Turns))].Kind = r.Intn(5)
	default:
		to := []string{"", "a", "b", "c"}[r.Intn(4)]
		img.Turns = append(img.Turns, api.DiskTurn{Kind: r.Intn(5), Name: name, To: to, Id: id * uint64(r.Intn(2))})
	}
}

// plain turns empty lists into nil, as answers have them.
func plain(img api.DiskImage) api.DiskImage {
	for i := range img.Nodes {
		for j := range img.Nodes[i].Changes {
			if len(img.Nodes[i].Changes[j].Data) == 0 {
				img.Nodes[i].Changes[j].Data = nil
			}
		}
	}
	if len(img.Turns) == 0 {
		img.Turns = nil
	}
	return img
}

func TestSpoiltImages(t *testing.T) { // P1.2: what is taken is a disk like any other
	taken, refused := 0, 0
	for seed := range int64(3000) {
		p := newPlayer(t, seed)
		for range p.r.Intn(40) {
			p.step()
		}
		img := p.d.Image()
		for range 1 + p.r.Intn(2) {
			spoil(p.r, &img)
		}
		d, err := disk.Load(img)
		if err != nil {
			refused++
			continue
		}
		taken++
		img = plain(img)
		sameImage(t, "taken", d.Image(), img)
		p.d, p.m = d, &model{img}
		for range 30 {
			what, got, want := p.step()
			is(t, what, got, want)
			sameImage(t, what, p.d.Image(), p.m.img)
			used(t, p.d, p.m.used())
		}
	}
	if taken < 300 || refused < 300 {
		t.Fatal("too few of a kind:", taken, refused)
	}
}
