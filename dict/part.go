package dict

import (
	"iter"

	"modality/api"
)

// row is a line of the dictionary.
type row struct {
	tag     api.Tag
	vr      api.VR
	least   int
	most    int
	keyword string
}

// many stands for the most values of an attribute that may have any number.
const many = 0

// An overlay's attributes are there in sixteen groups: the bits that part these do not count.
const (
	overlayGroup api.Tag = 0x6000
	overlayMask  api.Tag = 0xFFE1FFFF
	wholeMask    api.Tag = 0xFFFFFFFF
)

func (r row) mask() api.Tag {
	if group(r.tag) == overlayGroup {
		return overlayMask
	}
	return wholeMask
}

func (r row) entry() api.DictEntry {
	return api.DictEntry{Tag: r.tag, Mask: r.mask(), VR: r.vr, Keyword: r.keyword, Least: r.least, Most: r.most}
}

// part is a stretch of the dictionary, up to its last tag: cut so that no tag has to be looked for in all of it.
type part struct {
	last api.Tag
	rows iter.Seq[row]
}

// parts gives the dictionary in its order; every tag lies in one of them.
func parts() [10]part {
	return [...]part{
		{0x0007FFFF, commandRows},
		{0x00080FFF, identityRows},
		{0x000FFFFF, contextRows},
		{0x0017FFFF, patientRows},
		{0x0031FFFF, imageRows},
		{0x003FFFFF, visitRows},
		{0x00400240, scheduledRows},
		{0x00400FFF, performedRows},
		{0x006FFFFF, requestRows},
		{0xFFFFFFFF, drawingRows},
	}
}

func partOf(t api.Tag) part {
	all := parts()
	i := 0
	for t > all[i].last {
		i++
	}
	return all[i]
}

// give hands rows over one by one, until no more are wanted.
func give(yield func(row) bool, rows []row) {
	for _, r := range rows {
		if !yield(r) {
			return
		}
	}
}
