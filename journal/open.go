package journal

import (
	"modality/api"
	"modality/disk"
)

// Open mends the disk behind a power cut, and tells the base and the records (P2.6).
func Open(d *disk.Disk) (*Journal, [][]byte, [][]byte, error) {
	if err := checkDisk(d); err != nil {
		return nil, nil, nil, err
	}
	a, b := find(d, slotA), find(d, slotB)
	inA, inB := a.scan(), b.scan()
	newest := max(inA.Gen, inB.Gen)
	if newest == 0 {
		j, err := begin(a, b)
		return j, nil, nil, err
	}
	if inA.Gen == newest {
		return resume(a, b, inA)
	}
	return resume(b, a, inB)
}

func checkDisk(d *disk.Disk) error {
	switch _, e := d.Size(slotA); e {
	case api.ErrZero:
		return refusal(0, api.ErrZero)
	case api.ErrDiskOff:
		return refusal(0, api.ErrJournalOff)
	}
	return nil
}

// The writes of an Open that finds a current slot. The names are held ahead of the clearing: the current slot's may still be pending.
const (
	cutTail = iota
	holdCurrent
	holdNames
	clearOther
	holdOther
)

// resume goes on with the current slot as it was scanned.
func resume(current, other slot, in api.JournalScan) (*Journal, [][]byte, [][]byte, error) {
	hasTail := func() bool { return current.size > in.Good }
	err := run([]step{
		{cutTail, hasTail, current.cutting(in.Good)},
		{holdCurrent, always, current.hold},
		{holdNames, always, current.disk.SyncDir},
		{clearOther, other.hasBytes, other.empty},
		{holdOther, other.isThere, other.hold},
	})
	if err != nil {
		return nil, nil, nil, err
	}
	j := &Journal{
		disk:    current.disk,
		slot:    current.name,
		size:    in.Good,
		gen:     in.Gen,
		base:    len(in.Base),
		records: uint32(len(in.Records)),
	}
	return j, in.Base, in.Records, nil
}

// The writes of an Open that begins a journal.
const (
	makeA = iota
	clearA
	layA
	holdA
	makeB
	clearB
	holdB
	holdBoth
)

// begin lays a journal without anything in it, unless a slot has more than a beginning that was cut off can have left.
func begin(a, b slot) (*Journal, error) {
	if max(a.size, b.size) > headSize {
		return nil, refusal(0, api.ErrJournalLost)
	}
	head := slotBytes(1, nil)
	err := run([]step{
		{makeA, a.isMissing, a.create},
		{clearA, a.hasBytes, a.empty},
		{layA, always, a.laying(head)},
		{holdA, always, a.hold},
		{makeB, b.isMissing, b.create},
		{clearB, b.hasBytes, b.empty},
		{holdB, always, b.hold},
		{holdBoth, always, a.disk.SyncDir},
	})
	if err != nil {
		return nil, err
	}
	return &Journal{disk: a.disk, slot: a.name, size: len(head), gen: 1}, nil
}
