package norm

import (
	"strconv"

	"tapestry/anew"
	"tapestry/api"
	"tapestry/value"
)

// child that a value is shown as, its key aside; false: it is none.
func child(v *api.Value) (api.Child, bool) {
	switch v.Kind {
	case api.Int:
		// The number alone, as an Int that may not be has no text.
		return text(value.Text(api.Value{Kind: api.Int, N: v.N})), true
	case api.Text:
		return text(v.S), true
	case api.Elem:
		return element(v)
	}
	return api.Child{}, false
}

func text(s string) api.Child {
	return api.Child{Kind: api.ElText, Value: api.Value{Kind: api.Text, S: s}}
}

func element(v *api.Value) (api.Child, bool) {
	if v.Elem == api.ElNone || v.Elem >= api.ElText {
		return api.Child{}, false
	}
	return api.Child{Kind: v.Elem, Name: v.S, Value: anew.Value(*v)}, true
}

// keys that children took of their own.
type keys map[string]struct{}

// take answers the key of a child. Only what is a child may ask, as nothing else takes a key away.
func (k keys) take(v *api.Value, place int) string {
	if v.Kind == api.Elem && v.HasKey {
		key := "k:" + v.Key
		if _, taken := k[key]; !taken {
			k[key] = struct{}{}
			return key
		}
	}
	return "i:" + strconv.Itoa(place)
}
