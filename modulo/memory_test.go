package modulo

import (
	"fmt"
	"reflect"
	"strings"
	"testing"

	"graft/api"
)

// roomy is a value in new memory, each of whose lists has room behind it in which something stands.
func roomy[T any](v T) T { return roomyValue(reflect.ValueOf(v)).Interface().(T) }

func roomyValue(v reflect.Value) reflect.Value {
	out := reflect.New(v.Type()).Elem()
	out.Set(v)
	switch v.Kind() {
	case reflect.Slice:
		room := reflect.MakeSlice(v.Type(), v.Len()+3, v.Len()+3)
		for i := range v.Len() {
			room.Index(i).Set(roomyValue(v.Index(i)))
		}
		for i := range 3 {
			stamp(room.Index(v.Len() + i))
		}
		return room.Slice(0, v.Len())
	case reflect.Struct:
		for i := range v.NumField() {
			out.Field(i).Set(roomyValue(v.Field(i)))
		}
	}
	return out
}

// stamp overwrites a value.
func stamp(v reflect.Value) {
	switch v.Kind() {
	case reflect.Struct:
		for i := range v.NumField() {
			stamp(v.Field(i))
		}
	case reflect.Array:
		for i := range v.Len() {
			stamp(v.Index(i))
		}
	case reflect.String:
		v.SetString("over")
	case reflect.Int:
		v.SetInt(77)
	case reflect.Uint8:
		v.SetUint(0xEE)
	case reflect.Slice:
		v.SetZero()
	}
}

// lists is every list within a value, with the room behind it; what a list holds comes ahead of it.
func lists(v reflect.Value) []reflect.Value {
	var out []reflect.Value
	switch v.Kind() {
	case reflect.Slice:
		v = v.Slice(0, v.Cap())
		for i := range v.Len() {
			out = append(out, lists(v.Index(i))...)
		}
		out = append(out, v)
	case reflect.Struct:
		for i := range v.NumField() {
			out = append(out, lists(v.Field(i))...)
		}
	}
	return out
}

func listsOf(values []any) []reflect.Value {
	var out []reflect.Value
	for _, v := range values {
		out = append(out, lists(reflect.ValueOf(v))...)
	}
	return out
}

// whole is all that values hold, and what stands in the room behind their lists.
func whole(values []any) string {
	out := fmt.Sprintf("%#v", values)
	for _, l := range listsOf(values) {
		out += fmt.Sprintf("|%#v", l.Interface())
	}
	return out
}

// overwrite writes into each list of values, and into the room behind it.
func overwrite(values []any) {
	for _, l := range listsOf(values) {
		for i := range l.Len() {
			stamp(l.Index(i))
		}
	}
}

// apart holds that no list of one value shares memory with another one, nor with those of others.
func apart(t *testing.T, what string, values, others []any) {
	t.Helper()
	mine := listsOf(values)
	for i, a := range mine {
		for _, b := range append(mine[i+1:len(mine):len(mine)], listsOf(others)...) {
			if a.Len() == 0 || b.Len() == 0 {
				continue
			}
			from, to := a.Pointer(), a.Pointer()+uintptr(a.Len())*a.Type().Elem().Size()
			if b.Pointer() < to && from < b.Pointer()+uintptr(b.Len())*b.Type().Elem().Size() {
				t.Errorf("%s: the list %d of the answer shares memory with another one", what, i)
			}
		}
	}
}

// memoryCase is a call with what it is handed: what it answers.
type memoryCase struct {
	what  string
	given []any
	ask   func(given []any) []any
}

func memoryCases(t *testing.T) []memoryCase {
	full := asking(asking(read(t, two), y, "doc", "out"), z, "out")
	full.Sources, full.Args = []string{y}, []string{"a", "b"}
	known := []api.Known{{Recipe: z, Sum: api.Sum{1}}, {Recipe: y, Sum: api.Sum{1}}, {Recipe: y}}
	float := floating(t)
	float.Inputs = full.Inputs
	var out []memoryCase
	for what, r := range map[string]api.Recipe{"full": full, "plain": read(t, one), "fixed": asking(fixed(t, "sha256", zeros), y, "out"), "floating": float, "none": {}} {
		for _, k := range [][]api.Known{known, known[:1], nil} {
			given := []any{r, k}
			out = append(out,
				memoryCase{"Hash " + what, given, func(g []any) []any {
					a, b, c := Hash("x", g[0].(api.Recipe), g[1].([]api.Known))
					return []any{a, b, c}
				}},
				memoryCase{"Fill " + what, given, func(g []any) []any {
					a, b, c := Fill("x", g[0].(api.Recipe), g[1].([]api.Known))
					return []any{a, b, c}
				}},
				memoryCase{"Fits " + what, given, func(g []any) []any { a, b := Fits("x", g[0].(api.Recipe), g[1].([]api.Known)); return []any{a, b} }})
		}
	}
	zero, other := api.Hash{}, someHash(1)
	for _, data := range []string{"", "--", "x" + part(zero) + "-" + part(other), strings.Repeat("0", 40)} {
		for _, olds := range [][]api.Hash{nil, {other}, {other, zero}, {zero, zero}} {
			out = append(out, memoryCase{"Mask", []any{[]byte(data), olds}, func(g []any) []any {
				a, b, c, d := Mask(g[0].([]byte), g[1].([]api.Hash))
				return []any{a, b, c, d}
			}})
		}
	}
	members := ring(t, part(zero), part(other))
	turned := append([]api.Member{{Name: "c", Ark: fileArk(t, "")}}, members...)
	wrong := append([]api.Member{}, members...)
	wrong[1].Refs = []api.Label{{Name: "b"}, {Name: "a"}}
	for what, m := range map[string][]api.Member{"of a ring": members, "of three": turned, "of one": turned[:1], "out of order": wrong, "of none": nil} {
		n := api.Naming{Labels: make([]api.Label, len(m))}
		for i := range m {
			n.Labels[i].Hash = someHash(i)
		}
		out = append(out,
			memoryCase{"Group " + what, []any{m}, func(g []any) []any { a, b, c := Group(g[0].([]api.Member)); return []any{a, b, c} }},
			memoryCase{"Renamed " + what, []any{m, n}, func(g []any) []any { a, b := Renamed(g[0].([]api.Member), g[1].(api.Naming)); return []any{a, b} }},
			memoryCase{"Renamed without labels " + what, []any{m, api.Naming{}}, func(g []any) []any { a, b := Renamed(g[0].([]api.Member), g[1].(api.Naming)); return []any{a, b} }})
	}
	return out
}

// withRoom is what is handed in, in new memory with room behind each list.
func withRoom(given []any) []any {
	out := make([]any, len(given))
	for i, v := range given {
		out[i] = roomy(v)
	}
	return out
}

// What is handed in stays as it was, its spare room too, and is not kept; what is handed out is new memory, each list of it.
func TestMemory(t *testing.T) {
	for _, c := range memoryCases(t) {
		given := withRoom(c.given)
		before := whole(given)
		answer := c.ask(given)
		if whole(given) != before {
			t.Errorf("%s changed what it was handed", c.what)
		}
		second := c.ask(given)
		apart(t, c.what, answer, append(given, second...))
		want := whole(second)
		overwrite(answer)
		if whole(given) != before || whole(second) != want || whole(c.ask(given)) != want {
			t.Errorf("%s: what is written into its answer shows elsewhere", c.what)
		}
		overwrite(given)
		if whole(second) != want {
			t.Errorf("%s: its answer hangs on what it was handed", c.what)
		}
	}
}

// Members may share memory: archives, mentions and references of one are those of another, or a part of them.
func TestSharedMemory(t *testing.T) {
	long := ring(t, strings.Repeat("1", 32), strings.Repeat("2", 32))
	data := append(long[0].Ark, long[1].Ark...)
	cut := len(long[0].Ark)
	hits := []api.Hit{{At: 40, Which: 1}, {At: 100, Which: 0}, {At: 8, Which: 1}}
	refs := []api.Label{{Name: "a"}, {Name: "b"}, {Name: "c"}}
	members := []api.Member{
		{Name: "z", Ark: data[:cut], Hits: hits[:2], Refs: refs[:2]}, // what stands behind is the other one's
		{Name: "y", Ark: data[cut:], Hits: hits[1:2], Refs: refs[1:]},
		{Name: "x", Ark: data[:cut], Hits: hits[2:], Refs: refs[:1]},
	}
	before := whole([]any{members, data, hits, refs})
	n := takeGroup(t, "shared memory", members)
	arks := holdRenamed(t, members, n)
	if whole([]any{members, data, hits, refs}) != before {
		t.Error("what was handed in has changed")
	}
	apart(t, "shared memory", []any{n, arks}, []any{members})
	label := []string{store + "a.recipe", store + "b.recipe"}
	outputs := []string{"doc", "out"}
	r := read(t, two)
	r.Inputs = []api.Input{{Recipe: label[0], Outputs: outputs}, {Recipe: label[1], Outputs: outputs}}
	r.Sources, r.Args = label, label[:1]
	known := []api.Known{{Recipe: label[0]}, {Recipe: label[1], Sum: api.Sum{1}}}
	holdHash(t, "x", r, known)
	holdFill(t, "x", r, known)
	filled, _, _ := Fill("x", r, known)
	apart(t, "a recipe's shared memory", []any{filled}, []any{r})
}

// nil and empty lists are the same.
func TestNilAndEmpty(t *testing.T) {
	r := read(t, one)
	r.Inputs, r.Sources, r.Args = []api.Input{}, []string{}, []string{}
	want, _, _ := Hash("x", read(t, one), nil)
	if got, e, at := Hash("x", r, []api.Known{}); got != want || e != api.OK || at != 0 {
		t.Errorf("Hash: %d, %d", e, at)
	}
	holdFill(t, "x", r, []api.Known{})
	data := fileArk(t, "")
	a := takeGroup(t, "nil", []api.Member{{Name: "x", Ark: data}})
	b := takeGroup(t, "empty", []api.Member{{Name: "x", Ark: data, Hits: []api.Hit{}, Refs: []api.Label{}}})
	if !same(a, b) {
		t.Error("Group tells nil and empty apart")
	}
}
