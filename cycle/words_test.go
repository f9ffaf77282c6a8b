package cycle_test

import (
	"strconv"
	"strings"

	"gleaner/api"
	"gleaner/frame"
	"gleaner/key"
	"gleaner/object"
)

// found are the objects that were sought, by what was sought.
var found = map[string]api.Object{}

// seek is the first of a row of objects whose key begins with a letter, so that keys stand in the order of their letters.
func seek(letter byte, what string, nth func(n int) api.Object) api.Object {
	what = string(letter) + what
	if o, ok := found[what]; ok {
		return o
	}
	for n := range 1 << 14 {
		o := nth(n)
		if k := keyOf(o); k[0] == letter {
			found[what] = o
			return o
		}
	}
	panic("no object with the letter " + string(letter))
}

func keyOf(o api.Object) api.Key {
	k, no := object.KeyOf(o)
	if no != api.OK {
		panic("no object: " + no.Error())
	}
	return k
}

// blob is one whose record has so many bytes.
func blob(letter byte, size int) api.Object {
	return seek(letter, strconv.Itoa(size), func(n int) api.Object {
		data := make([]byte, size-api.Head-1)
		data[0], data[1] = byte(n), byte(n>>8)
		return api.Object{Kind: api.Blob, Data: data}
	})
}

// holder is an object of a kind in which some keys stand.
func holder(letter byte, kind api.Kind, kids []api.Key) api.Object {
	what := strconv.Itoa(int(kind))
	for _, k := range kids {
		what += string(k[:])
	}
	return seek(letter, what, func(n int) api.Object {
		o := api.Object{Kind: kind}
		switch kind {
		case api.List:
			for _, k := range kids {
				o.Parts = append(o.Parts, api.Part{Key: k})
			}
			o.Parts[0].Size = uint64(128 + n%16000) // two bytes, whatever n is
		case api.Tree:
			for i, k := range kids {
				o.Items = append(o.Items, api.Item{Name: strconv.Itoa(100 + i), Mode: api.File, Key: k})
			}
			o.Items[0].Size = uint64(128 + n%16000)
		case api.Snap:
			o.Tree, o.Parents, o.Time = kids[0], kids[1:], int64(n)
		}
		return o
	})
}

// bare is a word without what spoils its record.
func bare(word string) string {
	if i := strings.IndexAny(word, "!?"); i >= 0 {
		return word[:i]
	}
	return word
}

// thing is the object of a word:
//
//	a30 (a blob, its record 30 bytes) | a (what a stood for last; else a20) | m(a,b) (a list) | m[a,b] (a tree) | m{a,b} (a snapshot)
//
// Behind it the letter stands for it.
func (w *world) thing(word string) api.Object {
	letter, rest := word[0], bare(word)[1:]
	if rest == "" {
		if o, ok := w.words[letter]; ok {
			return o
		}
		rest = "20"
	}
	kind, holds := map[byte]api.Kind{'(': api.List, '[': api.Tree, '{': api.Snap}[rest[0]]
	if !holds {
		w.words[letter] = blob(letter, number(rest))
		return w.words[letter]
	}
	var kids []api.Key
	for _, kid := range strings.Split(rest[1:len(rest)-1], ",") {
		kids = append(kids, w.keyed(kid))
	}
	w.words[letter] = holder(letter, kind, kids)
	return w.words[letter]
}

func (w *world) keyed(word string) api.Key { return keyOf(w.thing(word)) }

// word is a key's.
func word(k api.Key) string {
	if 'A' <= k[0] && k[0] <= 'z' {
		return string(k[:1])
	}
	return key.Hex(k)[:8]
}

// packed is a body's record.
func packed(body []byte) []byte {
	r, no := frame.Pack(body)
	if no != api.OK {
		panic("no body: " + no.Error())
	}
	return r
}

func record(o api.Object) []byte {
	b, no := object.Encode(o)
	if no != api.OK {
		panic("no object: " + no.Error())
	}
	return packed(b)
}

// spoiled are the bytes of a word: a!5 is a's record with its byte 5 turned, a? a record of as many bytes whose body is no object's encoding.
func (w *world) spoiled(word string) []byte {
	b := record(w.thing(word))
	if strings.HasSuffix(word, "?") {
		return packed(make([]byte, len(b)-api.Head))
	}
	if _, n, ok := strings.Cut(word, "!"); ok {
		b[number(n)] ^= 0x10
	}
	return b
}

// call does what a line says, and tells the answers:
//
//	name w .. (the letter stands for it) | put w .. (as a store does: a hit is touched, else a live record, its entry with the epoch, Born)
//	old w .. (a live record and its entry with the mark 0) | lay w .. (a live record alone) | waste w .. (a dead one)
//	reserve n .. | write place w | live room .. | lost room .. (settled as dead) | enter w=room (an entry with the mark 0)
//	hold seg .. | let seg .. | seal | sweep w .. (the entry out, the record dead) | del w .. (the entry alone) | mark epoch w ..
//	root name w | drop name .. | open s .. | close s .. | pin s w ..
//	New epoch | Begin | Ready | Act (or 'Act n': so often; as acted tells) | Help (or 'Help n') | Touch w .. | Born w ..
//	Phase | Epoch | Grey | entries | segs | roots | pins
func call(w *world, line string) string {
	words := strings.Fields(line)
	head, rest := words[0], words[1:]
	switch head {
	case "write":
		return code(w.a.Write(place(rest[0]), w.spoiled(rest[1])))
	case "mark":
		return each(rest[1:], func(x string) string { return strconv.FormatBool(w.x.Mark(w.keyed(x), epoch(rest[0]))) })
	case "root":
		return code(w.r.Set(rest[0], w.keyed(rest[1])))
	case "pin":
		return each(rest[1:], func(x string) string { return code(w.p.Pin(number(rest[0]), w.keyed(x))) })
	case "New":
		w.c = w.anew(epoch(rest[0]))
		return ""
	case "Act":
		return acted(w.c, number(strings.Join(append(rest, "1")[:1], "")))
	case "Help":
		return each(make([]string, number(strings.Join(append(rest, "1")[:1], ""))), func(string) string {
			did, no := w.c.Help()
			return strconv.FormatBool(did) + "-" + code(no)
		})
	}
	if len(rest) == 0 {
		return alone(w, head)
	}
	return each(rest, func(x string) string { return one(w, head, x) })
}

// each tells what is answered for each word.
func each(words []string, do func(word string) string) string {
	var out []string
	for _, x := range words {
		out = append(out, do(x))
	}
	return strings.TrimSpace(strings.Join(out, " "))
}

// alone does a call without words.
func alone(w *world, what string) string {
	switch what {
	case "seal":
		w.a.Seal()
		return ""
	case "Begin":
		return code(w.c.Begin())
	case "Ready":
		return strconv.FormatBool(w.c.Ready())
	case "Phase":
		return phase(w.c.Phase())
	case "Epoch":
		return strconv.FormatUint(uint64(w.c.Epoch()), 10)
	case "Grey":
		return greyed(w.c.Grey())
	case "entries":
		return listed(w.x)
	case "segs":
		return booked(w.a.Segments())
	case "roots":
		return rooted(w.r.All())
	case "pins":
		return pinned(w.p.Sessions())
	}
	panic("no such call: " + what)
}

// one does a call of one word.
func one(w *world, what, word string) string {
	switch what {
	case "name":
		w.thing(word)
		return ""
	case "put", "old", "lay", "waste":
		return w.lay(what, word)
	case "reserve":
		at, no := w.a.Reserve(number(word))
		if no != api.OK {
			return code(no)
		}
		return placed(at)
	case "live", "lost":
		return code(w.a.Settle(room(word).Place, room(word).Size, what == "live"))
	case "enter":
		r, at, _ := strings.Cut(word, "=")
		return strconv.FormatBool(w.x.Put(w.keyed(r), api.Entry{Place: room(at).Place, Size: room(at).Size}))
	case "hold":
		return code(w.a.Hold(number(word)))
	case "let":
		return code(w.a.Let(number(word)))
	case "sweep", "del":
		e, ok := w.x.Del(w.keyed(word))
		if ok && what == "sweep" {
			return code(w.a.Dead(e.Place, e.Size))
		}
		return strconv.FormatBool(ok)
	case "drop":
		return code(w.r.Drop(word))
	case "open":
		return code(w.p.Open(number(word)))
	case "close":
		return code(w.p.Close(number(word)))
	case "Touch":
		w.c.Touch(w.keyed(word))
		return ""
	case "Born":
		w.c.Born(w.keyed(word))
		return ""
	}
	panic("no such call: " + what)
}

// lay writes a word's bytes into room of their own, and tells where.
func (w *world) lay(what, word string) string {
	k, b := w.keyed(word), w.spoiled(word)
	if _, ok := w.x.Get(k); ok && what == "put" {
		w.c.Touch(k)
		return "hit"
	}
	at, no := w.a.Reserve(len(b))
	if no != api.OK {
		return code(no)
	}
	w.a.Write(at, b)
	w.a.Settle(at, len(b), what != "waste")
	switch what {
	case "put":
		w.x.Put(k, api.Entry{Place: at, Size: len(b), Mark: w.c.Epoch()})
		w.c.Born(k)
	case "old":
		if !w.x.Put(k, api.Entry{Place: at, Size: len(b)}) {
			return "there"
		}
	}
	return placed(at)
}
