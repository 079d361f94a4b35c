package wire

import "graft/api"

// fields says which of its fields a message has; an Op or an Err it always has.
type fields struct {
	labels, text, data, number bool
}

// allFields is those of an answer.
func allFields() fields {
	return fields{true, true, true, true}
}

// fieldsOf is those of a request; false if there is none with this Op.
func fieldsOf(op int) (f fields, known bool) {
	switch op {
	case api.OpList, api.OpBye:
	case api.OpImport:
		f.data = true
		fallthrough
	case api.OpHello:
		f.number = true
	case api.OpText:
		f.labels = true
		fallthrough
	case api.OpTree:
		f.text, f.data = true, true
	case api.OpRewrite, api.OpVerify:
		f.number = true
		fallthrough
	case api.OpLookup, api.OpRead, api.OpExport:
		f.labels = true
	default:
		return fields{}, false
	}
	return f, true
}
