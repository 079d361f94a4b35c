package card

import (
	"strings"

	"graft/api"
	"graft/digest"
	"graft/label"
)

// The presses: what a file is made by out of its archive.
const (
	pressNone = "none"
	pressGzip = "gzip"
)

// maxUrl is how many bytes a file's name in a depot may have.
const maxUrl = 255

// cas is how a card tells the kinds of own names; a guest has none.
var cas = [...]string{
	api.Guest:    "",
	api.ByText:   "text",
	api.BySource: "source",
	api.ByGroup:  "group",
	api.ByFlat:   "flat",
}

// check is the fault of a card's first field that may not be as it is; nil if there is none.
func check(c api.Card) error {
	asIs := c.Press == pressNone // the file is the archive itself
	switch {
	case !isLabel(c.Label):
		return wrong(fieldLabel)
	case !isUrl(c.Url):
		return wrong(fieldUrl)
	case c.Press != pressNone && c.Press != pressGzip:
		return wrong(fieldPress)
	case !isSum(c.FileSum) || asIs && c.FileSum != c.ArkSum:
		return wrong(fieldFileSum)
	case !isSize(c.FileSize, api.MaxPress) || asIs && c.FileSize != c.ArkSize:
		return wrong(fieldFileSize)
	case !isSum(c.ArkSum):
		return wrong(fieldArkSum)
	case !isSize(c.ArkSize, api.MaxArk):
		return wrong(fieldArkSize)
	case !areRefs(c.Refs):
		return wrong(fieldRefs)
	case c.Maker != "" && !isBase(c.Maker):
		return wrong(fieldMaker)
	case !isCa(c.Ca):
		return wrong(fieldCa)
	case !areMarks(c.Marks):
		return wrong(fieldMarks)
	}
	return nil
}

func isLabel(text string) bool {
	_, e, _ := label.Parse(text)
	return e == api.OK
}

func isBase(text string) bool {
	_, e, _ := label.ParseBase(text)
	return e == api.OK
}

func isName(text string) bool {
	e, _ := label.Check(text)
	return e == api.OK
}

func isUrl(url string) bool {
	if len(url) > maxUrl {
		return false
	}
	for _, name := range strings.Split(url, "/") {
		if !isName(name) {
			return false
		}
	}
	return true
}

func isSum(text string) bool {
	_, form, e, _ := digest.Read(text)
	return e == api.OK && form == api.Form32
}

func isSize(size, most int) bool { return size >= 0 && size <= most }

func areRefs(refs []string) bool {
	if len(refs) > api.MaxRefs {
		return false
	}
	var ahead api.Label
	for i, ref := range refs {
		l, e, _ := label.ParseBase(ref)
		if e != api.OK || i > 0 && label.Compare(ahead, l) >= 0 {
			return false
		}
		ahead = l
	}
	return true
}

func isCa(text string) bool {
	for i := range cas {
		if cas[i] == text {
			return true
		}
	}
	return false
}

func areMarks(marks []api.Mark) bool {
	if len(marks) > api.MaxMarks {
		return false
	}
	for i, m := range marks {
		if !isName(m.Key) || i > 0 && marks[i-1].Key >= m.Key || !isTag(m.Tag) {
			return false
		}
	}
	return true
}

func isTag(text string) bool {
	tag, e, _ := digest.UnBase64(text)
	return e == api.OK && len(tag) == len(api.Sum{})
}
