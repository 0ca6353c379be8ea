package dimse

import (
	"strings"

	"modality/api"
)

// field is what a command's field says: a number, or a text; tags are the text of their bytes, so that every field can be compared.
type field struct {
	number uint16
	text   string
}

// What a command says of its data set.
const (
	someData = 0x0001
	noData   = 0x0101
)

func readField(c *api.Cmd) field     { return field{number: c.Field} }
func readClass(c *api.Cmd) field     { return field{text: c.Class} }
func readInstance(c *api.Cmd) field  { return field{text: c.Instance} }
func readId(c *api.Cmd) field        { return field{number: c.Id} }
func readTo(c *api.Cmd) field        { return field{number: c.To} }
func readPriority(c *api.Cmd) field  { return field{number: c.Priority} }
func readStatus(c *api.Cmd) field    { return field{number: c.Status} }
func readOffending(c *api.Cmd) field { return field{text: tagsText(c.Offending)} }
func readComment(c *api.Cmd) field   { return field{text: c.Comment} }
func readErrorId(c *api.Cmd) field   { return field{number: c.ErrorId} }
func readAttrs(c *api.Cmd) field     { return field{text: tagsText(c.Attrs)} }

func readHasData(c *api.Cmd) field {
	if c.HasData {
		return field{number: someData}
	}
	return field{number: noData}
}

func putField(c *api.Cmd, f field)     { c.Field = f.number }
func putClass(c *api.Cmd, f field)     { c.Class = f.text }
func putInstance(c *api.Cmd, f field)  { c.Instance = f.text }
func putId(c *api.Cmd, f field)        { c.Id = f.number }
func putTo(c *api.Cmd, f field)        { c.To = f.number }
func putPriority(c *api.Cmd, f field)  { c.Priority = f.number }
func putHasData(c *api.Cmd, f field)   { c.HasData = f.number != noData }
func putStatus(c *api.Cmd, f field)    { c.Status = f.number }
func putOffending(c *api.Cmd, f field) { c.Offending = tagsIn(f.text) }
func putComment(c *api.Cmd, f field)   { c.Comment = f.text }
func putErrorId(c *api.Cmd, f field)   { c.ErrorId = f.number }
func putAttrs(c *api.Cmd, f field)     { c.Attrs = tagsIn(f.text) }

// tagSize is how many bytes a tag has.
const tagSize = 4

// tagsText gives the bytes of tags. Of a list that no command set has room for it gives no more than shows that: MaxCommand bytes leave none for the heads.
func tagsText(tags []api.Tag) string {
	var text strings.Builder
	for _, t := range tags[:min(len(tags), api.MaxCommand/tagSize)] {
		text.WriteString(lowFirst(uint32(t>>16), 2))
		text.WriteString(lowFirst(uint32(t), 2))
	}
	return text.String()
}

// tagsIn reads tags out of their bytes, of which there are as many as whole tags have.
func tagsIn(text string) (tags []api.Tag) {
	for ; text != ""; text = text[tagSize:] {
		tags = append(tags, api.Tag(numberIn(text[:2])<<16|numberIn(text[2:tagSize])))
	}
	return tags
}

// lowFirst lays so many bytes of a number down, the low one first.
func lowFirst(number uint32, size int) string {
	b := make([]byte, size)
	for i := range b {
		b[i] = byte(number >> (8 * i))
	}
	return string(b)
}

// numberIn reads a number of as many bytes as there are, the low one first.
func numberIn[T string | []byte](b T) (number uint32) {
	for i := range len(b) {
		number |= uint32(b[i]) << (8 * i)
	}
	return number
}
