package card

import (
	"graft/api"
	"graft/digest"
	"graft/label"
)

// Tells is the card of an object that lies in a depot as this file.
func Tells(o api.Object, url, press string, file []byte) (api.Card, api.Errno) {
	maker, ok := baseOfText(o.Maker)
	if !ok || int(o.Ca) >= len(cas) {
		return api.Card{}, api.ErrArg
	}
	c := api.Card{
		Url:      url,
		Press:    press,
		FileSum:  digest.Show(digest.Of(file), api.Form32),
		FileSize: len(file),
		ArkSum:   digest.Show(digest.Of(o.Ark), api.Form32),
		ArkSize:  len(o.Ark),
		Refs:     basesOf(o.Refs),
		Maker:    maker,
		Ca:       cas[o.Ca],
	}
	// A label that isn't printable leaves an empty text, which check refuses.
	c.Label, _ = label.Print(o.Label)
	if err := check(c); err != nil {
		return api.Card{}, errnoOf(err)
	}
	return c, api.OK
}

// baseOfText is the base of the label whose text that is, of no text none; false if it is no label's.
func baseOfText(text string) (string, bool) {
	if text == "" {
		return "", true
	}
	l, e, _ := label.Parse(text)
	if e != api.OK {
		return "", false
	}
	base, _ := label.Base(l) // what Parse takes has one
	return base, true
}

// basesOf is the labels' bases; "" of one that isn't printable.
func basesOf(labels []api.Label) []string {
	bases := make([]string, len(labels))
	for i, l := range labels {
		bases[i], _ = label.Base(l)
	}
	return bases
}
