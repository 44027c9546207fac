package model

import (
	"strconv"

	"sealwax/api"
	"sealwax/box"
	"sealwax/words"
)

func (m *Model) create(o Op) Answer {
	id, e := m.names.Create(o.Box)
	if e != api.OK {
		return failed(e)
	}
	m.boxes[id] = box.New(id)
	return Answer{N: id}
}

func (m *Model) delete(o Op) Answer {
	id, e := m.names.Delete(o.Box)
	if e != api.OK {
		return failed(e)
	}
	delete(m.boxes, id)
	m.forget()
	return Answer{N: id}
}

func (m *Model) rename(o Op) Answer {
	id, e := m.names.Rename(o.Box, o.To)
	return Answer{Err: e, N: id}
}

func (m *Model) status(o Op) Answer {
	b, e := m.find(o.Box)
	if e != api.OK {
		return failed(e)
	}
	text := strconv.Itoa(b.Validity()) + " " + strconv.Itoa(b.Next()) + " " + strconv.Itoa(b.Unseen())
	return Answer{N: len(b.List()), Text: text}
}

func (m *Model) append(o Op) Answer {
	b, e := m.find(o.Box)
	if e != api.OK {
		return failed(e)
	}
	if len(o.Text) > api.MaxMail {
		return failed(api.ErrBig)
	}
	added, e := b.Add(m.next, o.Flags)
	if e != api.OK {
		return failed(e)
	}
	m.mails[m.next] = mail{o.Text}
	m.next++
	return Answer{N: added.UID}
}

func (m *Model) fetch(o Op) Answer {
	b, e := m.find(o.Box)
	if e != api.OK {
		return failed(e)
	}
	entry, e := b.Get(o.UID)
	if e != api.OK {
		return failed(e)
	}
	return Answer{N: entry.Flags, Text: m.mails[entry.Mail].text}
}

func (m *Model) copy(o Op) Answer {
	b, e := m.find(o.Box)
	if e != api.OK {
		return failed(e)
	}
	to, e := m.find(o.To)
	if e != api.OK {
		return failed(e)
	}
	entry, e := b.Get(o.UID)
	if e != api.OK {
		return failed(e)
	}
	added, e := to.Add(entry.Mail, entry.Flags)
	return Answer{Err: e, N: added.UID}
}

// move leaves the mail with an entry, so that none is forgotten.
func (m *Model) move(o Op) Answer {
	moved := m.copy(o)
	if moved.Err == api.OK {
		b, _ := m.find(o.Box)
		b.Remove(o.UID)
	}
	return moved
}

func (m *Model) flag(o Op) Answer {
	b, e := m.find(o.Box)
	if e != api.OK {
		return failed(e)
	}
	entry, e := b.Set(o.UID, o.Flags, o.Off)
	return Answer{Err: e, N: entry.Flags}
}

func (m *Model) expunge(o Op) Answer {
	b, e := m.find(o.Box)
	if e != api.OK {
		return failed(e)
	}
	var hits []Hit
	for _, entry := range b.Expunge() {
		hits = append(hits, Hit{Box: o.Box, UID: entry.UID, Flags: entry.Flags})
	}
	m.forget()
	return Answer{N: len(hits), Hits: hits}
}

func (m *Model) search(o Op) Answer {
	wanted, e := words.Clean(o.Words...)
	if e != api.OK || o.Flags < 0 || o.Flags > box.All {
		return failed(api.ErrArg)
	}
	if _, e := m.find(o.Box); o.Box != "" && e != api.OK {
		return failed(e)
	}
	var hits []Hit
	for name, entry := range m.entries() {
		asked := o.Box == "" || o.Box == name
		flagged := entry.Flags&o.Flags == o.Flags
		if asked && flagged && words.Has(m.mails[entry.Mail].text, wanted...) {
			hits = append(hits, Hit{Box: name, UID: entry.UID, Flags: entry.Flags})
		}
	}
	return Answer{N: len(hits), Hits: hits}
}
